package filter_test

import (
	"math/rand"
	"slices"
	"strings"
	"testing"

	"foliant/api"
	"foliant/ascii"
	"foliant/filter"
	"foliant/predict"
	"foliant/sample"
	"foliant/value"
	"foliant/zlib"
)

// noise returns n bytes, each one of so many.
func noise(seed int64, n, kinds int) string {
	r := rand.New(rand.NewSource(seed))
	b := make([]byte, n)
	for i := range b {
		b[i] = byte(r.Intn(kinds))
	}
	return string(b)
}

// texts returns data, as many bytes as 12 divides.
func texts() []string {
	return []string{"", "abcdefghijkl", strings.Repeat("\x00", 240), noise(1, 1200, 256), noise(2, 3000, 3), strings.Repeat("rows row", 150)}
}

// checkText holds an answer against the wanted one.
func checkText(t *testing.T, what string, got string, e api.Errno, want string, wantErr api.Errno) {
	t.Helper()
	if got != want || e != wantErr {
		t.Errorf("%s = %s, %d, want %s, %d", what, brief(got), e, brief(want), wantErr)
	}
}

// checkObject holds an answer against the wanted one.
func checkObject(t *testing.T, what string, got api.Object, e api.Errno, want api.Object, wantErr api.Errno) {
	t.Helper()
	if !value.Same(got, want) || e != wantErr {
		t.Errorf("%s = %s, %d, want %s, %d", what, brief(got), e, brief(want), wantErr)
	}
}

// Promises 16.3 and 16.5: the filters without parameters.
func TestOneAndUndo(t *testing.T) {
	encoders := map[string]func(s string) string{hex: ascii.Hex, five: ascii.Five, run: ascii.Run}
	odd := []api.Parms{{}, plain(1)[0], {Predictor: 12, Colors: 5, Columns: 7}, {Predictor: -1, Colors: 1 << 40, Columns: -3}}
	for short, full := range shorts() {
		encode, ok := encoders[full]
		for _, name := range []string{short, full} {
			for _, s := range texts() {
				for i := 0; ok && i < len(odd); i++ {
					got, e := filter.One(name, odd[i], s)
					checkText(t, "One "+name, got, e, encode(s), api.OK)
					got, e = filter.Undo(name, odd[i], encode(s))
					checkText(t, "Undo "+name, got, e, s, api.OK)
				}
			}
		}
	}
	for _, name := range []string{"", "LZWDecode", "fl", "Flate"} {
		for _, p := range odd {
			got, e := filter.One(name, p, strings.Repeat("x", api.MaxData+1))
			checkText(t, "One "+name, got, e, "", api.ErrFilter)
			got, e = filter.Undo(name, p, "")
			checkText(t, "Undo "+name, got, e, "", api.ErrFilter)
		}
	}
}

// Promises 16.3 and 16.5: the filter with parameters.
func TestFlate(t *testing.T) {
	for _, p := range []api.Parms{plain(1)[0], {Predictor: 2, Colors: 3, Columns: 4}, {Predictor: 10, Colors: 1, Columns: 2}, {Predictor: 12, Colors: 1, Columns: 6}, {Predictor: 15, Colors: 4, Columns: 3}, {Predictor: 1, Colors: 7, Columns: 100}} {
		for _, name := range []string{"Fl", flate} {
			for _, s := range texts() {
				rows, _ := predict.Encode(p, s)
				want, _ := zlib.Wrap(rows, 2)
				got, e := filter.One(name, p, s)
				checkText(t, "One", got, e, want, api.OK)
				back, e := filter.Undo(name, p, got)
				checkText(t, "Undo", back, e, s, api.OK)
				stored, _ := zlib.Wrap(rows, 0)
				back, e = filter.Undo(name, p, stored+"more")
				checkText(t, "Undo", back, e, s, api.OK)
			}
		}
	}
}

// Promise 16.3: the errors, and which comes first.
func TestOneErrors(t *testing.T) {
	def, up, bad := plain(1)[0], api.Parms{Predictor: 12, Colors: 1, Columns: 3}, api.Parms{Predictor: 3, Colors: 1, Columns: 1}
	most := strings.Repeat("m", api.MaxData)
	for _, c := range []struct {
		name string
		p    api.Parms
		s    string
		e    api.Errno
	}{
		{"Fl", bad, most + "m", api.ErrArg}, {flate, api.Parms{}, "", api.ErrArg}, {"Fl", def, most + "m", api.ErrLong}, {"Fl", up, most + "m", api.ErrLong}, {"Fl", up, "abcd", api.ErrRow}, {"Fl", up, most, api.ErrRow}, {"Fl", up, most[:api.MaxData/3*3], api.ErrLong}, {"Fl", api.Parms{Predictor: 2, Colors: 1, Columns: 5}, "abcd", api.ErrRow},
		{"AHx", bad, most + "m", api.ErrLong}, {five, def, most + "m", api.ErrLong}, {"RL", def, most + "m", api.ErrLong}, {hex, def, most + "m", api.ErrLong}, {"?", bad, most + "m", api.ErrFilter},
	} {
		got, e := filter.One(c.name, c.p, c.s)
		checkText(t, "One "+c.name, got, e, "", c.e)
	}
	for _, name := range []string{hex, five, run, flate} {
		got, e := filter.One(name, def, most)
		back, e2 := filter.Undo(name, def, got)
		if e != api.OK || back != most || e2 != api.OK {
			t.Errorf("One and Undo of as many bytes as may be with %s = %d, %d bytes, %d", name, e, len(back), e2)
		}
	}
}

// Promise 16.3: the errors, and which comes first.
func TestUndoErrors(t *testing.T) {
	def, up, bad := plain(1)[0], api.Parms{Predictor: 12, Colors: 1, Columns: 3}, api.Parms{Predictor: 3, Colors: 1, Columns: 1}
	wrapped := func(s string) string { s, _ = zlib.Wrap(s, 2); return s }
	spoiled := []byte(wrapped("abc"))
	spoiled[len(spoiled)-1]++
	for _, c := range []struct {
		name string
		p    api.Parms
		s    string
		e    api.Errno
	}{
		{"?", bad, "", api.ErrFilter}, {"Fl", bad, "", api.ErrArg}, {"Fl", bad, string(spoiled), api.ErrArg}, {"Fl", bad, wrapped("abc"), api.ErrArg}, {flate, api.Parms{Predictor: 2, Colors: 2, Columns: 4097}, wrapped(""), api.ErrArg},
		{"Fl", def, "", api.ErrEnd}, {"Fl", def, "xy", api.ErrForm}, {"Fl", def, string(spoiled), api.ErrSum}, {"Fl", up, string(spoiled), api.ErrSum}, {"Fl", up, wrapped("abc"), api.ErrRow}, {"Fl", up, wrapped("\x05abc"), api.ErrForm}, {"Fl", up, wrapped("\x02abc"), api.OK}, {"Fl", def, "\x78\x9c\x07", api.ErrForm}, {"Fl", def, "\x78\x9c\x03\x02", api.ErrFar},
		{"AHx", bad, "4?", api.ErrForm}, {"AHx", def, "41", api.ErrEnd}, {"A85", bad, "v", api.ErrForm}, {"A85", def, "~", api.ErrEnd}, {"RL", bad, "", api.ErrEnd}, {"RL", def, "\x01a\x80", api.ErrEnd},
		{"AHx", def, strings.Repeat("00", api.MaxData+1) + ">", api.ErrLong}, {"A85", def, strings.Repeat("z", api.MaxData/4+1) + "~>", api.ErrLong}, {"RL", def, strings.Repeat("\x81a", api.MaxData/128+1) + "\x80", api.ErrLong},
	} {
		got, e := filter.Undo(c.name, c.p, c.s)
		want := ""
		if c.e == api.OK {
			want = "abc"
		}
		checkText(t, "Undo "+c.name+" "+brief(c.s), got, e, want, c.e)
	}
	// One byte more than there may be, which the writer alone would refuse.
	big := strings.Repeat("m", api.MaxData)
	long, _ := zlib.Wrap(big, 0)
	got, e := filter.Undo("Fl", def, long)
	checkText(t, "Undo of most", got, e, big, api.OK)
	got, e = filter.Undo("Fl", def, "\x78\x9c\x00\x01\x00\xfe\xffm"+long[2:])
	checkText(t, "Undo of more", got, e, "", api.ErrLong)
}

// Promise 16.4: filters one after the other, and the first error.
func TestDecode(t *testing.T) {
	null, up := value.Null(), predictor(12, 1, 3)
	wrapped, _ := zlib.Wrap("\x02abc\x02\x01\x01\x01", 2)
	for _, c := range []struct {
		o    api.Object
		want string
		e    api.Errno
	}{
		{stream(""), "", api.OK}, {stream(sample.Bytes()), sample.Bytes(), api.OK}, {stream("41>"), "41>", api.OK}, {stream("41>", names()), "41>", api.OK}, {stream("41>", value.Name("AHx")), "A", api.OK}, {stream("41>", names(hex)), "A", api.OK},
		{stream("34 31 3e>", names("AHx", hex)), "A", api.OK}, {stream(ascii.Hex(ascii.Five("x")), names("AHx", "A85")), "x", api.OK}, {stream(ascii.Five(ascii.Hex("x")), names("A85", "AHx")), "x", api.OK}, {stream(ascii.Hex(ascii.Five("x")), names("A85", "AHx")), "", api.ErrEnd}, {stream(ascii.Five(ascii.Hex("x")), names("AHx", "A85")), "", api.ErrForm},
		{stream(wrapped, value.Name("Fl"), up), "abcbcd", api.OK}, {stream(wrapped, value.Name("Fl")), "\x02abc\x02\x01\x01\x01", api.OK}, {stream(ascii.Hex(wrapped), names("AHx", "Fl"), sample.Array(null, up)), "abcbcd", api.OK}, {stream(ascii.Hex(wrapped), names("AHx", "Fl"), up), "\x02abc\x02\x01\x01\x01", api.OK}, {stream(ascii.Hex(wrapped), names("AHx", "Fl"), sample.Array(null, predictor(12, 1, 4))), "", api.ErrRow},
		{stream("41", value.Name("AHx")), "", api.ErrEnd}, {stream("4?", names("AHx", "Fl")), "", api.ErrForm}, {stream("41>", names("AHx", "Fl")), "", api.ErrEnd}, {stream("41", names("AHx", "?")), "", api.ErrFilter}, {stream("4?", value.Name("AHx"), predictor(3, 1, 1)), "", api.ErrArg},
	} {
		got, e := filter.Decode(c.o)
		checkText(t, "Decode "+brief(c.o), got, e, c.want, c.e)
	}
	s := "as many as may be"
	list := slices.Repeat([]string{"AHx"}, api.MaxFilter)
	for range list {
		s = ascii.Hex(s)
	}
	got, e := filter.Decode(stream(s, names(list...)))
	checkText(t, "Decode of eight", got, e, "as many as may be", api.OK)
}

// Promise 16.4.
func TestPlain(t *testing.T) {
	none, one := api.Object{}, value.Int(1)
	filters := sample.Dict("DecodeParms Filter K", one, one, one)
	long := strings.Repeat("x", api.MaxData)
	inner := sample.Dict("Filter", one)
	for i, c := range []struct {
		o    api.Object
		data string
		want api.Object
		e    api.Errno
	}{
		{sample.Dict(""), "", api.Object{Kind: api.KStream}, api.OK}, {filters, "ab", api.Object{Kind: api.KStream, Keys: []string{"K"}, Kids: []api.Object{one}, S: "ab"}, api.OK}, {api.Object{Kind: api.KStream, Keys: filters.Keys, Kids: filters.Kids, S: "old"}, "new", api.Object{Kind: api.KStream, Keys: []string{"K"}, Kids: []api.Object{one}, S: "new"}, api.OK},
		{sample.Dict("A Length Z", inner, one, one), long, api.Object{Kind: api.KStream, Keys: []string{"A", "Z"}, Kids: []api.Object{inner, one}, S: long}, api.OK}, {api.Object{Kind: api.KStream, Keys: []string{"Length"}, Kids: []api.Object{one}, S: long + "x"}, "", api.Object{Kind: api.KStream}, api.OK}, {api.Object{Kind: api.KDict, S: "x"}, "y", api.Object{Kind: api.KStream, S: "y"}, api.OK},
		{sample.Dict(""), long + "x", none, api.ErrLong}, {filters, long + "x", none, api.ErrLong}, {api.Object{Kind: api.KStream, N: 1}, "", none, api.ErrKind}, {api.Object{Kind: api.KDict, G: 1}, long + "x", none, api.ErrKind}, {sample.Dict("A", value.Null()), long + "x", none, api.ErrForm}, {sample.Dict("B A", one, one), "", none, api.ErrForm}, {sample.Dict("Filter", value.Ref(0, 0)), "", none, api.ErrRange}, {sample.Dict("DecodeParms", value.Name("\x00")), "", none, api.ErrForm},
		{api.Object{Kind: api.KStream, Keys: []string{"A"}}, "", none, api.ErrForm}, {sample.Dict("A", stream("")), "", none, api.ErrKind}, {sample.Dict("A", sample.Nest(one, 22)), "", api.Object{Kind: api.KStream, Keys: []string{"A"}, Kids: []api.Object{sample.Nest(one, 22)}}, api.OK}, {sample.Dict("A", sample.Nest(one, 23)), "", none, api.ErrDeep}, {sample.Broad(api.MaxKids + 1), "", none, api.ErrMany},
	} {
		before := brief(c.o)
		got, e := filter.Plain(c.o, c.data)
		checkObject(t, "Plain "+before, got, e, c.want, c.e)
		if brief(c.o) != before {
			t.Errorf("Plain %d changed its argument to %s", i, brief(c.o))
		}
	}
	for _, o := range others() {
		if o.Kind != api.KStream && o.Kind != api.KDict {
			got, e := filter.Plain(o, long+"x")
			checkObject(t, "Plain", got, e, none, api.ErrKind)
			got, e = filter.Encode(o, []string{"?"}, nil, "")
			checkObject(t, "Encode", got, e, none, api.ErrKind)
		}
	}
}
