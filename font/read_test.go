package font_test

import (
	"math"
	"slices"
	"strings"
	"testing"
	"time"

	"foliant/api"
	"foliant/cmap"
	"foliant/docs"
	"foliant/font"
	"foliant/octet"
	"foliant/sample"
	"foliant/value"
)

// entries are those of a dictionary.
type entries map[string]api.Object

// ref returns a reference of generation 0.
func ref(num int) api.Object { return sample.Ref(num, 0) }

// name returns a name.
func name(s string) api.Object { return value.Name(s) }

// ints returns an array of integers.
func ints(list ...int64) api.Object {
	o := sample.Array()
	for _, n := range list {
		o.Kids = append(o.Kids, value.Int(n))
	}
	return o
}

// stream returns a stream without filters.
func stream(s string) api.Object { return api.Object{Kind: api.KStream, S: s} }

// simple returns the dictionary of a font with more entries, of which those that are null are taken away.
func simple(more entries) api.Object {
	all := entries{"BaseFont": name("F"), "Subtype": name("Type1")}
	for key, o := range more {
		all[key] = o
	}
	return sample.Entries(all)
}

// composite returns the dictionary of a wide font whose descendant has some entries, with more entries of its own.
func composite(below, more entries) api.Object {
	all := entries{"BaseFont": name("F"), "Subtype": name("Type0"), "Encoding": name("Identity-H"), "DescendantFonts": sample.Array(sample.Entries(below))}
	for key, o := range more {
		all[key] = o
	}
	return sample.Entries(all)
}

// library is a document with items from number 5 on.
func library(list ...api.Object) api.Doc {
	d := sample.Doc(1, api.Item{Num: 1, Obj: sample.Dict("")})
	for i, o := range list {
		d.Items = append(d.Items, api.Item{Num: 5 + i, Obj: o})
	}
	return d
}

// changed returns the usual names with some changes.
func changed(changes map[int]string) []string {
	l := font.Usual()
	for code, s := range changes {
		l[code] = s
	}
	return l
}

// reading is a document and an object with what Read must answer.
type reading struct {
	d    api.Doc
	o    api.Object
	want api.Font
}

// simpleReadings returns fonts whose codes have one byte.
func simpleReadings() []reading {
	none := library()
	of := func(more entries, change func(f *api.Font)) reading {
		return reading{none, simple(more), plain(change)}
	}
	maps := []api.Map{{Code: 65, S: "x"}}
	text := "beginbfchar <41> <0078> endbfchar"
	hex := stream(octet.Hex(text) + ">")
	hex.Keys, hex.Kids = []string{"Filter"}, []api.Object{name("AHx")}
	nothing := func(*api.Font) {}
	return []reading{
		of(nil, nothing), of(entries{"Subtype": name("TrueType")}, nothing), {library(simple(nil)), ref(5), plain(nothing)}, of(entries{"Type": value.Int(7), "LastChar": name("x"), "DescendantFonts": name("x"), "W": name("x")}, nothing), of(entries{"BaseFont": name(strings.Repeat("n", 127))}, func(f *api.Font) { f.Name = strings.Repeat("n", 127) }),
		of(entries{"FirstChar": value.Int(255)}, func(f *api.Font) { f.First = 255 }), of(entries{"FirstChar": value.Int(0)}, nothing), of(entries{"Widths": sample.Array()}, nothing), of(entries{"Widths": ints(0, 100000, 5)}, func(f *api.Font) { f.Widths = []int64{0, 100000, 5} }), of(entries{"FirstChar": value.Int(250), "Widths": ints(1, 2, 3, 4, 5, 6)}, func(f *api.Font) { f.First, f.Widths = 250, []int64{1, 2, 3, 4, 5, 6} }), of(entries{"Widths": ints(widths(256)...)}, func(f *api.Font) { f.Widths = widths(256) }),
		of(entries{"FontDescriptor": sample.Dict("MissingWidth", value.Int(7))}, func(f *api.Font) { f.Missing = 7 }), of(entries{"FontDescriptor": sample.Dict("MissingWidth", value.Int(100000))}, func(f *api.Font) { f.Missing = 100000 }), of(entries{"FontDescriptor": sample.Dict("")}, nothing), of(entries{"FontDescriptor": value.Int(3)}, nothing), of(entries{"FontDescriptor": ref(99)}, nothing), of(entries{"FontDescriptor": sample.Dict("MissingWidth", ref(99))}, nothing), of(entries{"MissingWidth": value.Int(7), "DW": value.Int(8)}, nothing), {library(api.Object{Kind: api.KStream, Keys: []string{"MissingWidth"}, Kids: []api.Object{value.Int(7)}}), simple(entries{"FontDescriptor": ref(5)}), plain(nothing)},
		of(entries{"Encoding": name("WinAnsiEncoding")}, nothing), of(entries{"Encoding": name("Identity-H")}, nothing), of(entries{"Encoding": ref(99)}, nothing),
		of(entries{"Encoding": sample.Dict("Differences", sample.Array())}, func(f *api.Font) { f.Names = font.Usual() }), of(entries{"Encoding": sample.Dict("BaseEncoding Differences", name("x"), sample.Array(value.Int(7), name("A"), name("B"), value.Int(255), name("C"), value.Int(65), name(""), value.Int(7), name("D")))}, func(f *api.Font) { f.Names = changed(map[int]string{7: "D", 8: "B", 255: "C", 65: ""}) }), of(entries{"Encoding": sample.Dict("Differences", ints(1, 2, 255))}, func(f *api.Font) { f.Names = font.Usual() }), of(entries{"Encoding": sample.Dict("Differences", sample.Array(value.Int(0), name(strings.Repeat("n", 127)), value.Int(0)))}, func(f *api.Font) { f.Names = changed(map[int]string{0: strings.Repeat("n", 127)}) }),
		{library(stream(text)), simple(entries{"ToUnicode": ref(5)}), plain(func(f *api.Font) { f.Maps = maps })}, {library(hex), simple(entries{"ToUnicode": ref(5)}), plain(func(f *api.Font) { f.Maps = maps })}, {library(stream("")), simple(entries{"ToUnicode": ref(5)}), plain(nothing)}, {library(stream("begincodespacerange <0000> <FFFF> endcodespacerange")), simple(entries{"ToUnicode": ref(5)}), plain(nothing)}, of(entries{"ToUnicode": ref(99)}, nothing), of(entries{"ToUnicode": stream(text)}, func(f *api.Font) { f.Maps = maps }),
		// Every value is resolved.
		{library(simple(entries{"Subtype": ref(6), "BaseFont": ref(7), "FirstChar": ref(8), "Widths": ref(9), "FontDescriptor": ref(10), "Encoding": ref(11), "ToUnicode": ref(15)}), name("TrueType"), name("G"), value.Int(9), sample.Array(ref(8), value.Int(2), ref(8)), sample.Dict("MissingWidth", ref(8)), sample.Dict("Differences", ref(12)), sample.Array(ref(8), ref(13), ref(14)), name("a"), name("b"), stream(text)), ref(5), api.Font{Name: "G", First: 9, Widths: []int64{9, 2, 9}, Missing: 9, Names: changed(map[int]string{9: "a", 10: "b"}), Maps: maps}},
	}
}

// wideReadings returns fonts whose codes have two bytes.
func wideReadings() []reading {
	none := library()
	thousand := func(change func(f *api.Font)) api.Font {
		return wide(func(f *api.Font) {
			f.Missing = 1000
			change(f)
		})
	}
	w := func(first int, l []int64, list ...api.Object) reading {
		return reading{none, composite(entries{"W": sample.Array(list...), "DW": value.Int(7)}, nil), wide(func(f *api.Font) { f.Missing, f.First, f.Widths = 7, first, l })}
	}
	n := value.Int
	nothing := func(*api.Font) {}
	return []reading{
		{none, composite(nil, nil), thousand(nothing)}, {none, composite(nil, entries{"FirstChar": name("x"), "Widths": name("x"), "FontDescriptor": name("x"), "W": name("x"), "DW": name("x"), "Type": n(7)}), thousand(nothing)}, {none, composite(entries{"Subtype": n(1), "BaseFont": n(1), "ToUnicode": n(1)}, nil), thousand(nothing)}, {none, composite(entries{"DW": n(0)}, nil), wide(nothing)}, {none, composite(entries{"DW": n(100000)}, nil), wide(func(f *api.Font) { f.Missing = 100000 })}, {none, composite(entries{"DW": ref(99), "W": ref(99)}, nil), thousand(nothing)},
		w(0, nil), w(0, nil, n(65535), sample.Array()), w(0, nil, n(3), sample.Array(), n(0), sample.Array()), w(3, []int64{5}, n(9), sample.Array(), n(3), ints(5), n(0), sample.Array()),
		w(3, []int64{5, 6}, n(3), ints(5, 6)), w(3, []int64{5, 5, 5}, n(3), n(5), n(5)), w(3, []int64{5}, n(3), n(3), n(5)), w(0, []int64{0}, n(0), ints(0)), w(65535, []int64{100000}, n(65535), ints(100000)), w(65534, []int64{1, 1}, n(65534), n(65535), n(1)),
		w(3, []int64{5, 7, 7, 8, 9}, n(6), ints(8, 9), n(3), ints(5)), w(3, []int64{5, 6, 7, 7, 8}, n(7), n(7), n(8), n(3), n(3), n(5), n(4), ints(6)), w(3, []int64{1, 9, 9, 4, 1}, n(3), n(7), n(1), n(4), ints(2, 3, 4), n(4), n(5), n(9)), w(3, []int64{2, 3}, n(3), ints(1, 3), n(3), n(3), n(2)), w(3, []int64{2, 2}, n(3), ints(1, 3), n(3), n(4), n(2)),
		w(0, slices.Repeat([]int64{4}, 4096), n(0), n(4095), n(4)), w(61440, slices.Repeat([]int64{4}, 4096), n(61440), n(65535), n(4)), w(100, append(append([]int64{1}, slices.Repeat([]int64{7}, 4094)...), 2), n(100), ints(1), n(4195), ints(2)),
		{library(stream("beginbfchar <0041> <0078> endbfchar")), composite(nil, entries{"ToUnicode": ref(5)}), thousand(func(f *api.Font) { f.Maps = []api.Map{{Code: 65, S: "x"}} })}, {library(stream("begincodespacerange <00> <FF> endcodespacerange")), composite(nil, entries{"ToUnicode": ref(5)}), thousand(nothing)},
		// Every value is resolved.
		{library(composite(nil, entries{"Subtype": ref(6), "Encoding": ref(7), "DescendantFonts": ref(8)}), name("Type0"), name("Identity-H"), sample.Array(ref(9)), sample.Dict("DW W", ref(10), ref(11)), n(7), sample.Array(ref(10), ref(12), n(9), ref(13), ref(10)), sample.Array(ref(10)), n(10)), ref(5), wide(func(f *api.Font) { f.Missing, f.First, f.Widths = 7, 7, []int64{7, 7, 7, 7} })},
	}
}

// Promise 47.3.
func TestRead(t *testing.T) {
	for i, c := range append(simpleReadings(), wideReadings()...) {
		was := sample.Copy(c.d)
		f, e := font.Read(c.d, c.o)
		if !same(f, c.want) || e != api.OK || !docs.Same(c.d, was) {
			t.Errorf("Read %d = %s, %d, want %s", i, brief(f), e, brief(c.want))
		}
		if e := font.Check(f); e != api.OK {
			t.Errorf("Check of font %d = %d", i, e)
		}
	}
}

// wrongSimple returns entries that a font whose codes have one byte can't have.
func wrongSimple() []entries {
	differences := func(list ...api.Object) entries {
		return entries{"Encoding": sample.Dict("Differences", sample.Array(list...))}
	}
	n := value.Int
	return []entries{
		{"Subtype": value.Null()}, {"Subtype": name("Type3")}, {"Subtype": name("type1")}, {"Subtype": name("CIDFontType2")}, {"Subtype": value.String("Type1")}, {"Subtype": ref(99)}, {"Subtype": n(1)},
		{"BaseFont": value.Null()}, {"BaseFont": value.String("F")}, {"BaseFont": ref(99)}, {"BaseFont": name("")}, {"BaseFont": name(strings.Repeat("n", 128))}, {"BaseFont": name("a\x00")}, {"BaseFont": n(1)},
		{"FirstChar": n(-1)}, {"FirstChar": n(256)}, {"FirstChar": n(math.MaxInt64)}, {"FirstChar": value.Real(0)}, {"FirstChar": name("A")}, {"FirstChar": sample.Array()},
		{"Widths": n(1)}, {"Widths": sample.Dict("")}, {"Widths": ints(1, -1)}, {"Widths": ints(100001)}, {"Widths": ints(math.MinInt64)}, {"Widths": sample.Array(value.Real(10000))}, {"Widths": sample.Array(value.Null())}, {"Widths": sample.Array(n(1), ref(99))}, {"Widths": sample.Array(n(1), name("A"))}, {"Widths": sample.Array(ints(1))}, {"Widths": ints(widths(257)...)}, {"FirstChar": n(1), "Widths": ints(widths(256)...)}, {"FirstChar": n(255), "Widths": ints(1, 2)},
		{"FontDescriptor": sample.Dict("MissingWidth", n(-1))}, {"FontDescriptor": sample.Dict("MissingWidth", n(100001))}, {"FontDescriptor": sample.Dict("MissingWidth", value.Real(10000))}, {"FontDescriptor": sample.Dict("MissingWidth", name("A"))}, {"FontDescriptor": sample.Dict("MissingWidth", ints(1))},
		{"Encoding": n(1)}, {"Encoding": value.String("WinAnsiEncoding")}, {"Encoding": sample.Array()}, {"Encoding": stream("")}, {"Encoding": sample.Dict("")}, {"Encoding": sample.Dict("Differences", ref(99))}, {"Encoding": sample.Dict("Differences", n(1))}, {"Encoding": sample.Dict("Differences", name("A"))}, {"Encoding": sample.Dict("Differences", sample.Dict(""))}, {"Encoding": sample.Dict("BaseEncoding", name("A"))},
		differences(name("A")), differences(n(256), name("A")), differences(n(255), name("A"), name("B")), differences(n(256)), differences(n(-1), name("A")), differences(n(-1)), differences(n(math.MaxInt64)), differences(n(1), value.Null()), differences(n(1), value.String("A")), differences(n(1), ref(99)), differences(value.Real(10000), name("A")), differences(n(1), sample.Array(name("A"))), differences(n(1), name("a\x00")), differences(n(1), name(strings.Repeat("n", 128))),
		{"ToUnicode": name("Identity-H")}, {"ToUnicode": sample.Dict("")}, {"ToUnicode": n(1)}, {"ToUnicode": value.String("")}, {"ToUnicode": sample.Array()},
	}
}

// wrongWide returns fonts whose codes should have two bytes.
func wrongWide() []api.Object {
	w := func(list ...api.Object) api.Object { return composite(entries{"W": sample.Array(list...)}, nil) }
	n := value.Int
	return []api.Object{
		composite(nil, entries{"Encoding": value.Null()}), composite(nil, entries{"Encoding": name("Identity-V")}), composite(nil, entries{"Encoding": value.String("Identity-H")}), composite(nil, entries{"Encoding": sample.Dict("Differences", sample.Array())}), composite(nil, entries{"Encoding": ref(99)}),
		composite(nil, entries{"DescendantFonts": value.Null()}), composite(nil, entries{"DescendantFonts": sample.Array()}), composite(nil, entries{"DescendantFonts": sample.Array(sample.Dict(""), sample.Dict(""))}), composite(nil, entries{"DescendantFonts": sample.Dict("")}), composite(nil, entries{"DescendantFonts": sample.Array(ref(99))}), composite(nil, entries{"DescendantFonts": sample.Array(stream(""))}), composite(nil, entries{"DescendantFonts": sample.Array(sample.Array(sample.Dict("")))}), composite(nil, entries{"DescendantFonts": ref(99)}),
		composite(nil, entries{"BaseFont": value.Null()}), composite(nil, entries{"BaseFont": name("")}), composite(nil, entries{"ToUnicode": name("Identity-H")}), composite(entries{"BaseFont": name("G")}, entries{"BaseFont": n(1)}),
		composite(entries{"DW": n(-1)}, nil), composite(entries{"DW": n(100001)}, nil), composite(entries{"DW": value.Real(10000)}, nil), composite(entries{"DW": name("A")}, nil), composite(entries{"W": n(1)}, nil), composite(entries{"W": sample.Dict("")}, nil),
		w(n(3)), w(n(3), n(3)), w(n(3), ints(5), n(3)), w(n(3), ints(5), n(3), n(3)), w(ints(5)), w(name("A"), ints(5)), w(value.Null(), ints(5)), w(value.Real(30000), ints(5)), w(n(-1), ints(5)), w(n(65536), ints(5)), w(n(65535), ints(5, 6)), w(n(65536), sample.Array()), w(n(-1), sample.Array()), w(n(math.MaxInt64), ints(5)), w(n(math.MinInt64), n(5), n(5)),
		w(n(3), n(2), n(5)), w(n(3), n(65536), n(5)), w(n(3), n(-1), n(5)), w(n(3), n(math.MaxInt64), n(5)), w(n(65535), n(65536), n(5)), w(n(3), name("A"), n(5)), w(n(3), value.Null(), n(5)), w(n(3), value.Real(30000), n(5)), w(n(3), ref(99), n(5)),
		w(n(3), n(3), n(-1)), w(n(3), n(3), n(100001)), w(n(3), n(3), name("A")), w(n(3), n(3), ints(5)), w(n(3), n(3), ref(99)), w(n(3), n(3), value.Real(50000)), w(n(3), ints(-1)), w(n(3), ints(5, 100001)), w(n(3), sample.Array(name("A"))), w(n(3), sample.Array(ref(99))), w(n(3), sample.Array(value.Real(50000))),
		w(n(0), n(4096), n(4)), w(n(0), n(65535), n(4)), w(n(100), ints(1), n(4196), ints(2)), w(n(4196), ints(2), n(100), ints(1)), w(n(0), ints(widths(4097)...)), w(n(0), ints(1), n(65535), n(65535), n(2)),
	}
}

// Promise 47.3: what is not as it must be.
func TestReadErrors(t *testing.T) {
	bad := stream("x")
	bad.Keys, bad.Kids = []string{"Filter"}, []api.Object{name("Nothing")}
	d := library(bad)
	expect := func(what string, i int, d api.Doc, o api.Object, want api.Errno) {
		t.Helper()
		if f, e := font.Read(d, o); !same(f, api.Font{}) || e != want {
			t.Errorf("Read of %s %d = %s, %d, want %d", what, i, brief(f), e, want)
		}
	}
	for i, o := range []api.Object{value.Null(), value.Int(1), name("Type1"), ref(99), ref(6), sample.Ref(6, 1), sample.Array(simple(nil)), {Kind: 77}, stream(""), sample.Dict("")} {
		expect("no font", i, d, o, api.ErrFont)
	}
	withStream := simple(nil)
	withStream.Kind = api.KStream
	expect("a stream", 0, library(withStream), ref(5), api.ErrFont)
	encoding := sample.Dict("Differences", sample.Array())
	encoding.Kind = api.KStream
	expect("a stream as its encoding", 0, library(encoding), simple(entries{"Encoding": ref(5)}), api.ErrFont)
	for i, more := range wrongSimple() {
		expect("a simple font", i, d, simple(more), api.ErrFont)
		if more["ToUnicode"].Kind == api.KNull {
			// What is wrong with the stream comes after all else.
			more["ToUnicode"] = ref(5)
			expect("a simple font with a bad stream", i, d, simple(more), api.ErrFont)
		}
	}
	for i, o := range wrongWide() {
		expect("a wide font", i, d, o, api.ErrFont)
		if text, _ := value.Get(o, "ToUnicode"); text.Kind == api.KNull {
			o, _ = value.Set(o, "ToUnicode", ref(5))
			expect("a wide font with a bad stream", i, d, o, api.ErrFont)
		}
	}
}

// Promise 47.3: errors of ToUnicode.
func TestReadMapsErrors(t *testing.T) {
	filtered := func(filter, s string) api.Object {
		o := stream(s)
		o.Keys, o.Kids = []string{"Filter"}, []api.Object{name(filter)}
		return o
	}
	indirect := stream("41>")
	indirect.Keys, indirect.Kids = []string{"Filter"}, []api.Object{ref(1)}
	long := "beginbfchar <%> <" + strings.Repeat("0061", 257) + "> endbfchar"
	for i, c := range []struct {
		o            api.Object
		narrow, wide api.Errno
	}{
		{filtered("Nothing", ""), api.ErrFilter, api.ErrFilter}, {indirect, api.ErrKind, api.ErrKind}, {filtered("AHx", "4x>"), api.ErrForm, api.ErrForm}, {filtered("Fl", "x"), api.ErrEnd, api.ErrEnd},
		{stream("beginbfchar"), api.ErrEnd, api.ErrEnd}, {stream(")"), api.ErrForm, api.ErrForm}, {stream("beginbfrange <41><42><FFFF>"), api.ErrRange, api.ErrRange}, {stream(strings.Repeat("beginbfrange <00><FF><0000> endbfrange ", 17)), api.ErrMany, api.ErrMany}, {stream("beginbfchar <41><0061><0041>"), api.ErrForm, api.ErrForm},
		{stream("beginbfchar <41> <0061> endbfchar"), api.OK, api.ErrFont}, {stream("beginbfchar <0041> <0061> endbfchar"), api.ErrFont, api.OK}, {stream("beginbfchar <41> <61> endbfchar"), api.ErrForm, api.ErrForm}, {stream("begincodespacerange <00><FF> endcodespacerange"), api.OK, api.OK}, {stream("begincodespacerange <0000><FFFF> endcodespacerange"), api.OK, api.OK},
		{stream(strings.Replace(long, "%", "41", 1)), api.ErrFont, api.ErrFont}, {stream(strings.Replace(long, "%", "0041", 1)), api.ErrFont, api.ErrFont},
	} {
		d := library(c.o)
		if f, e := font.Read(d, simple(entries{"ToUnicode": ref(5)})); e != c.narrow || e != api.OK && !same(f, api.Font{}) {
			t.Errorf("Read %d = %s, %d, want %d", i, brief(f), e, c.narrow)
		}
		if f, e := font.Read(d, composite(nil, entries{"ToUnicode": ref(5)})); e != c.wide || e != api.OK && !same(f, api.Font{}) {
			t.Errorf("Read of wide font %d = %s, %d, want %d", i, brief(f), e, c.wide)
		}
	}
}

// Promise 47.3: documents and objects need not be valid.
func TestReadInvalid(t *testing.T) {
	good, other := simple(nil), simple(entries{"BaseFont": name("G")})
	items := func(list ...api.Item) api.Doc { return api.Doc{Items: list} }
	for i, c := range []struct {
		d    api.Doc
		o    api.Object
		want string
	}{
		{api.Doc{}, good, "F"}, {items(api.Item{Num: 7, Obj: good}, api.Item{Num: 5, Obj: other}), ref(5), "G"}, {items(api.Item{Num: 7, Obj: good}, api.Item{Num: 5, Obj: other}), ref(7), "F"}, {items(api.Item{Num: 5, Obj: good}, api.Item{Num: 5, Obj: other}), ref(5), "F"}, {items(api.Item{Num: 9, Obj: other}, api.Item{Num: 5, Obj: good}, api.Item{Num: 5, Obj: other}), ref(5), "F"}, {items(api.Item{Num: 9}, api.Item{Num: 5, Gen: 1, Obj: good}, api.Item{Num: 5, Obj: other}), ref(5), ""}, {items(api.Item{Num: 5, Gen: 1, Obj: good}), sample.Ref(5, 1), "F"}, {items(api.Item{Num: 5, Gen: 1, Obj: good}), ref(5), ""},
		{items(api.Item{Num: 0, Obj: good}), ref(0), "F"}, {items(api.Item{Num: -3, Obj: good}), ref(-3), "F"}, {items(api.Item{Num: 100000, Gen: -1, Obj: good}), sample.Ref(100000, -1), "F"}, {items(api.Item{Num: math.MaxInt, Obj: good}, api.Item{Num: math.MinInt, Obj: other}), ref(math.MinInt), "G"},
		// A reference to a reference is resolved once.
		{items(api.Item{Num: 5, Obj: ref(6)}, api.Item{Num: 6, Obj: good}), ref(5), ""}, {items(api.Item{Num: 5, Obj: ref(5)}), ref(5), ""}, {items(api.Item{Num: 5, Obj: ref(6)}, api.Item{Num: 6, Obj: name("Type1")}), simple(entries{"Subtype": ref(5)}), ""}, {items(api.Item{Num: 6, Obj: name("Type1")}), simple(entries{"Subtype": ref(6)}), "F"},
		// Keys without values, keys that are not sorted, and the first of several.
		{api.Doc{}, api.Object{Kind: api.KDict, Keys: []string{"Subtype", "BaseFont", "Widths"}, Kids: []api.Object{name("Type1"), name("F")}}, "F"}, {api.Doc{}, api.Object{Kind: api.KDict, Keys: []string{"Subtype", "Subtype", "BaseFont", "BaseFont"}, Kids: []api.Object{name("Type1"), name("x"), name("F"), name("G")}}, "F"}, {api.Doc{}, api.Object{Kind: api.KDict, Keys: []string{"Subtype"}}, ""}, {api.Doc{}, simple(entries{"Encoding": api.Object{Kind: 55}}), ""}, {api.Doc{}, simple(entries{"Widths": api.Object{Kind: -1}}), ""}, {api.Doc{}, api.Object{Kind: api.KDict, N: 5, G: 7, S: "s", Keys: good.Keys, Kids: good.Kids}, "F"}, {api.Doc{}, simple(entries{"FontDescriptor": {Kind: 66, Keys: []string{"MissingWidth"}, Kids: []api.Object{value.Int(-1)}}}), "F"},
	} {
		was := sample.Copy(c.d)
		f, e := font.Read(c.d, c.o)
		if !docs.Same(c.d, was) {
			t.Errorf("Read %d changes the document", i)
		}
		if f.Name != c.want || (e == api.OK) != (c.want != "") || e != api.OK && e != api.ErrFont {
			t.Errorf("Read %d = %s, %d, want %s", i, brief(f), e, c.want)
		}
	}
}

// Promise 47.3: the time for fonts with many references and entries.
func TestReadTime(t *testing.T) {
	d := library()
	for num := 5; num <= api.MaxNum; num++ {
		d.Items = append(d.Items, api.Item{Num: num, Obj: value.Int(1)})
	}
	d.Items[1].Obj = sample.Array(slices.Repeat([]api.Object{ref(api.MaxNum)}, api.MaxKids-1)...)
	var list []api.Object
	for range api.MaxKids / 3 {
		list = append(list, value.Int(0), value.Int(4095), ref(api.MaxNum))
	}
	d.Items[2].Obj = sample.Array(list...)
	start := time.Now()
	if f, e := font.Read(d, simple(entries{"Widths": ref(5)})); e != api.ErrFont || len(f.Widths) != 0 {
		t.Errorf("Read of many widths = %s, %d", brief(f), e)
	}
	if f, e := font.Read(d, composite(entries{"W": ref(6)}, nil)); e != api.OK || len(f.Widths) != 4096 {
		t.Errorf("Read of many entries = %s, %d", brief(f), e)
	}
	if f, e := font.Read(d, composite(entries{"W": ref(5)}, nil)); e != api.OK || len(f.Widths) != 1 {
		t.Errorf("Read of many references = %s, %d", brief(f), e)
	}
	if took := time.Since(start); took > 5*time.Second {
		t.Errorf("reading took %v", took)
	}
}

// Results share no memory with the document.
func TestReadMemory(t *testing.T) {
	c := simpleReadings()
	last := c[len(c)-1]
	f, _ := font.Read(last.d, last.o)
	was := sample.Copy(last.d)
	f.Widths[0], f.Names[9], f.Maps[0].S = 77, "z", "z"
	if !docs.Same(last.d, was) {
		t.Error("the font shares memory with the document")
	}
	if again, _ := font.Read(last.d, last.o); !same(again, last.want) {
		t.Errorf("read again: %s", brief(again))
	}
	if _, wide, e := cmap.Read(last.d.Items[11].Obj.S); wide || e != api.OK {
		t.Errorf("the maps are wide: %v, %d", wide, e)
	}
}
