package font_test

import (
	"slices"
	"strings"
	"testing"

	"foliant/api"
	"foliant/cmap"
	"foliant/docs"
	"foliant/filter"
	"foliant/font"
	"foliant/sample"
	"foliant/value"
)

// model reads a font by the words of the chapter. It remembers whether anything differs from the description.
type model struct {
	d     api.Doc
	wrong bool
}

// get returns a value, resolved.
func (x *model) get(o api.Object, key string) api.Object {
	v, _ := value.Get(o, key)
	return docs.Follow(x.d, v)
}

// must remembers that something is wrong unless it is.
func (x *model) must(is bool) bool {
	x.wrong = x.wrong || !is
	return is
}

// isInt reports whether o is an integer from 0 to most.
func isInt(o api.Object, most int64) bool { return o.Kind == api.KInt && o.N >= 0 && o.N <= most }

// all returns the elements of an array, resolved.
func (x *model) all(o api.Object) []api.Object {
	var l []api.Object
	if x.must(o.Kind == api.KArray) {
		for _, kid := range o.Kids {
			l = append(l, docs.Follow(x.d, kid))
		}
	}
	return l
}

// simple reads a font whose codes have one byte.
func (x *model) simple(o api.Object) api.Font {
	var f api.Font
	if first := x.get(o, "FirstChar"); first.Kind != api.KNull && x.must(isInt(first, 255)) {
		f.First = int(first.N)
	}
	if w := x.get(o, "Widths"); w.Kind != api.KNull {
		for _, v := range x.all(w) {
			x.must(isInt(v, 100000))
			f.Widths = append(f.Widths, v.N)
		}
	}
	if d := x.get(o, "FontDescriptor"); d.Kind == api.KDict {
		if m := x.get(d, "MissingWidth"); m.Kind != api.KNull && x.must(isInt(m, 100000)) {
			f.Missing = m.N
		}
	}
	encoding := x.get(o, "Encoding")
	x.must(encoding.Kind == api.KNull || encoding.Kind == api.KName || encoding.Kind == api.KDict)
	if encoding.Kind == api.KDict {
		f.Names = font.Usual()
		code := int64(-1)
		for _, v := range x.all(x.get(encoding, "Differences")) {
			switch v.Kind {
			case api.KInt:
				x.must(isInt(v, 255))
				code = v.N
			case api.KName:
				if x.must(code >= 0 && code <= 255) {
					f.Names[code] = v.S
				}
				code++
			default:
				x.must(false)
			}
		}
	}
	return f
}

// wide reads a font whose codes have two bytes.
func (x *model) wide(o api.Object) api.Font {
	f := api.Font{Wide: true, Missing: 1000}
	x.must(value.Same(x.get(o, "Encoding"), value.Name("Identity-H")))
	kids := x.all(x.get(o, "DescendantFonts"))
	if !x.must(len(kids) == 1 && kids[0].Kind == api.KDict) {
		return f
	}
	if dw := x.get(kids[0], "DW"); dw.Kind != api.KNull && x.must(isInt(dw, 100000)) {
		f.Missing = dw.N
	}
	w := x.get(kids[0], "W")
	if w.Kind == api.KNull {
		return f
	}
	mentioned := map[int64]int64{}
	for l := x.all(w); len(l) > 0 && !x.wrong; {
		switch {
		case !x.must(isInt(l[0], 65535) && len(l) > 1):
		case l[1].Kind == api.KArray:
			for i, v := range x.all(l[1]) {
				x.must(isInt(v, 100000))
				mentioned[l[0].N+int64(i)] = v.N
			}
			l = l[2:]
		case x.must(isInt(l[1], 65535) && l[1].N >= l[0].N && len(l) > 2 && isInt(l[2], 100000)):
			for code := l[0].N; code <= l[1].N; code++ {
				mentioned[code] = l[2].N
			}
			l = l[3:]
		}
	}
	least, greatest := int64(1<<40), int64(-1)
	for code := range mentioned {
		least, greatest = min(least, code), max(greatest, code)
	}
	if len(mentioned) == 0 || !x.must(greatest <= 65535 && greatest-least < 4096) {
		return f
	}
	f.First = int(least)
	for code := least; code <= greatest; code++ {
		n, ok := mentioned[code]
		if !ok {
			n = f.Missing
		}
		f.Widths = append(f.Widths, n)
	}
	return f
}

// readByTheWords does what Read does.
func readByTheWords(d api.Doc, o api.Object) (api.Font, api.Errno) {
	x := model{d: d}
	o = docs.Follow(d, o)
	kind, base := x.get(o, "Subtype"), x.get(o, "BaseFont")
	if o.Kind != api.KDict || kind.Kind != api.KName || !slices.Contains([]string{"Type1", "TrueType", "Type0"}, kind.S) {
		return api.Font{}, api.ErrFont
	}
	var f api.Font
	if kind.S == "Type0" {
		f = x.wide(o)
	} else {
		f = x.simple(o)
	}
	x.must(base.Kind == api.KName)
	f.Name = base.S
	text := x.get(o, "ToUnicode")
	x.must(text.Kind == api.KNull || text.Kind == api.KStream)
	x.must(font.Check(f) == api.OK)
	if x.wrong {
		return api.Font{}, api.ErrFont
	}
	if text.Kind == api.KNull {
		return f, api.OK
	}
	s, e := filter.Decode(text)
	if e != api.OK {
		return api.Font{}, e
	}
	l, wide, e := cmap.Read(s)
	f.Maps = l
	switch {
	case e != api.OK:
		return api.Font{}, e
	case len(l) > 0 && wide != f.Wide || font.Check(f) != api.OK:
		return api.Font{}, api.ErrFont
	}
	return f, api.OK
}

// press makes documents with fonts, in some of which something is wrong.
type press struct {
	n      uint32
	flawed bool
	items  []api.Item
}

// pick chooses a number from 0 to below, not included.
func (x *press) pick(below int) int {
	x.n = x.n*1664525 + 1013904223
	return int(x.n>>8) % below
}

// one reports, once in so many times, that something is to be.
func (x *press) one(times int) bool { return x.pick(times) == 0 }

// flaw reports that something is to be wrong.
func (x *press) flaw() bool { return x.flawed && x.one(40) }

// either returns an object, or a reference to it.
func (x *press) either(o api.Object) api.Object {
	if o.Kind != api.KStream && !x.one(3) {
		return o
	}
	num := 3 + len(x.items)
	x.items = append(x.items, api.Item{Num: num, Gen: x.pick(2), Obj: o})
	return sample.Ref(num, x.items[len(x.items)-1].Gen)
}

// odd returns something that stands in the place of o, if something is to be wrong.
func (x *press) odd(o api.Object) api.Object {
	if !x.flaw() {
		return x.either(o)
	}
	list := []api.Object{{}, value.Int(-1), value.Int(7), value.Int(256), value.Int(65536), value.Int(100001), value.Real(70000), name("A"), name("Type0"), name(""), value.String("s"), sample.Array(), ints(7), sample.Dict(""), ref(99), stream("")}
	return x.either(list[x.pick(len(list))])
}

// width returns a width.
func (x *press) width() api.Object { return x.odd(value.Int(int64(x.pick(1000)))) }

// widths returns an array of up to so many widths.
func (x *press) widths(most int) api.Object {
	o := sample.Array()
	for range x.pick(most + 1) {
		o.Kids = append(o.Kids, x.width())
	}
	return x.odd(o)
}

// differences returns an array of codes and names.
func (x *press) differences() api.Object {
	o := sample.Array()
	for range x.pick(5) {
		o.Kids = append(o.Kids, x.odd(value.Int(int64(x.pick(252)))))
		for range x.pick(4) {
			o.Kids = append(o.Kids, x.odd(name([]string{"a", "B", "", "uni00E9"}[x.pick(4)])))
		}
	}
	if x.flaw() {
		o.Kids = append([]api.Object{name("A")}, o.Kids...)
	}
	if x.flaw() {
		o.Kids = append(o.Kids, value.Int(254), name("A"), name("B"), name("C"))
	}
	return x.odd(o)
}

// text returns a stream that maps codes of so many bytes.
func (x *press) text(size int) api.Object {
	if x.flaw() {
		size = 3 - size
	}
	s := "beginbfrange <" + strings.Repeat("00", size) + "><" + strings.Repeat("00", size-1) + "05><0041> endbfrange"
	if x.flaw() {
		s = []string{"beginbfchar", ")", "beginbfchar <41><61>", "beginbfchar <41><" + strings.Repeat("0061", 300) + "> endbfchar"}[x.pick(4)]
	}
	o := stream(s)
	if x.one(2) {
		o, _ = filter.Encode(o, []string{"AHx"}, nil, s)
	}
	if x.flaw() {
		o.Keys, o.Kids = []string{"Filter"}, []api.Object{[]api.Object{name("Fl"), name("x"), ref(99), value.Int(1)}[x.pick(4)]}
	}
	return o
}

// entries returns the entries of the dictionary of a font.
func (x *press) entries() entries {
	all := entries{"BaseFont": x.odd(name("F")), "Type": name("Font")}
	if x.one(2) {
		all["Subtype"] = x.odd(name([]string{"Type1", "TrueType"}[x.pick(2)]))
		if x.one(2) {
			all["FirstChar"] = x.odd(value.Int(int64(x.pick(252))))
		}
		all["Widths"] = x.widths(4)
		all["FontDescriptor"] = x.odd(sample.Dict("MissingWidth", x.width()))
		switch x.pick(3) {
		case 0:
			all["Encoding"] = x.odd(sample.Dict("Differences", x.differences()))
		case 1:
			all["Encoding"] = x.odd(name("WinAnsiEncoding"))
		}
		if x.one(2) {
			all["ToUnicode"] = x.odd(x.text(1))
		}
		return all
	}
	below := entries{}
	if x.one(2) {
		below["DW"] = x.width()
	}
	if !x.one(5) {
		below["W"] = x.spans()
	}
	all["Subtype"], all["Encoding"] = x.odd(name("Type0")), x.odd(name("Identity-H"))
	kids := sample.Array(x.odd(sample.Entries(below)))
	if x.flaw() {
		kids.Kids = append(kids.Kids, kids.Kids[0])
	}
	all["DescendantFonts"] = x.odd(kids)
	if x.one(2) {
		all["ToUnicode"] = x.odd(x.text(2))
	}
	return all
}

// spans returns an array of widths for codes that lie near to each other.
func (x *press) spans() api.Object {
	o := sample.Array()
	base := []int{0, 300, 65500}[x.pick(3)]
	for range x.pick(6) {
		first := base + x.pick(30)
		if x.flaw() {
			first += 4080
		}
		o.Kids = append(o.Kids, x.odd(value.Int(int64(first))))
		if x.one(2) {
			o.Kids = append(o.Kids, x.widths(5))
			continue
		}
		last := first + x.pick(5)
		if x.flaw() {
			last = first - 1
		}
		o.Kids = append(o.Kids, x.odd(value.Int(int64(last))), x.width())
	}
	if x.flaw() && len(o.Kids) > 0 {
		o.Kids = o.Kids[:len(o.Kids)-1]
	}
	return x.odd(o)
}

// Promise 47.3, by the words of the chapter.
func TestReadByTheWords(t *testing.T) {
	found, wides := map[api.Errno]int{}, 0
	for n := range 30000 {
		x := press{n: uint32(n), flawed: n%2 > 0}
		o := x.either(sample.Entries(x.entries()))
		d := api.Doc{Items: x.items}
		if x.one(3) {
			// A document that is not valid: its items stand in another order.
			slices.Reverse(d.Items)
		}
		want, wantErr := readByTheWords(d, o)
		f, e := font.Read(d, o)
		if !same(f, want) || e != wantErr {
			t.Fatalf("Read %d (%v in %v) = %s, %d, want %s, %d", n, o, d, brief(f), e, brief(want), wantErr)
		}
		found[e]++
		if f.Wide {
			wides++
		}
	}
	if found[api.OK] < 10000 || found[api.ErrFont] < 3000 || found[api.ErrForm] < 20 || found[api.ErrEnd] < 20 || found[api.ErrKind] < 20 || wides < 5000 || found[api.OK]-wides < 5000 {
		t.Errorf("the errors are %v, and %d fonts are wide", found, wides)
	}
}

// Promise 47.5: what is read is made again, and read as the same font.
func TestMakeWhatWasRead(t *testing.T) {
	again := 0
	for n := range 5000 {
		x := press{n: uint32(n)}
		o := x.either(sample.Entries(x.entries()))
		f, e := font.Read(api.Doc{Items: x.items}, o)
		if e != api.OK || len(f.Widths) == 0 && f.First != 0 {
			continue
		}
		more, o, wrong := made(library(), f)
		if back, e := font.Read(more, o); wrong != "" || e != api.OK || !same(back, f) {
			t.Fatalf("Make of %s: %s, and is read as %s, %d", brief(f), wrong, brief(back), e)
		}
		again++
	}
	if again < 3000 {
		t.Errorf("%d fonts were made", again)
	}
}
