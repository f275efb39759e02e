package cross_test

import (
	"fmt"
	"math"
	"slices"
	"strings"
	"testing"

	"foliant/api"
	"foliant/cross"
	"foliant/docs"
	"foliant/filter"
	"foliant/sample"
	"foliant/table"
	"foliant/value"
)

// brief shows the beginning of anything.
func brief(x any) string { return fmt.Sprintf("%.300s", fmt.Sprintf("%q", fmt.Sprint(x))) }

// ints returns the array of some integers.
func ints(l ...int) api.Object {
	o := value.Array()
	for _, n := range l {
		o.Kids = append(o.Kids, value.Int(int64(n)))
	}
	return o
}

// same reports whether two sections are equal.
func same(a, b api.Section) bool {
	return a.At == b.At && slices.Equal(a.Slots, b.Slots) && value.Same(a.Trailer, b.Trailer) && a.Prev == b.Prev && a.Hybrid == b.Hybrid && a.Own == b.Own
}

// stream returns the item 9 whose stream has the keys of a cross-reference stream, but for those that are changed; the value null takes a key away.
func stream(data string, changes ...any) api.Item {
	o := api.Object{Kind: api.KStream, Keys: []string{"Size", "Type", "W"}, Kids: []api.Object{value.Int(3), value.Name("XRef"), ints(1, 2, 1)}, S: data}
	for i := 0; i < len(changes); i += 2 {
		var e api.Errno
		o, e = value.Set(o, changes[i].(string), changes[i+1].(api.Object))
		if e != api.OK {
			panic(fmt.Sprint("no such stream: ", changes, e))
		}
	}
	return api.Item{Num: 9, Obj: o}
}

// rows are the rows of the entries 0, free, 1, plain, and 2, packed, in fields of 1, 2 and 1 bytes.
const rows = "\x00\x00\x00\xff" + "\x01\x12\x34\x01" + "\x02\x00\x05\x07"

// three returns the entries of rows, with numbers from num on.
func three(num int) []api.Slot {
	return []api.Slot{{Num: num, Kind: api.SlotFree, B: 255}, {Num: num + 1, Kind: api.SlotPlain, A: 0x1234, B: 1}, {Num: num + 2, Kind: api.SlotPacked, A: 5, B: 7}}
}

// checkRead holds what Read answers against what it should.
func checkRead(t *testing.T, i api.Item, want []api.Slot, prev int) {
	t.Helper()
	for _, at := range []int{0, 17, math.MaxInt} {
		whole := api.Section{At: at, Slots: want, Trailer: api.Object{Kind: api.KDict, Keys: i.Obj.Keys, Kids: i.Obj.Kids}, Prev: prev, Hybrid: -1, Own: i.Num}
		if got, e := cross.Read(i, at); !same(got, whole) || e != api.OK {
			t.Errorf("Read(%s, %d) = %s, %d, want %s", brief(i), at, brief(got), e, brief(whole))
		}
	}
}

// refuses checks that Read has an error.
func refuses(t *testing.T, i api.Item, at int, want api.Errno) {
	t.Helper()
	if got, e := cross.Read(i, at); !same(got, api.Section{}) || e != want {
		t.Errorf("Read(%s, %d) = %s, %d, want %d", brief(i), at, brief(got), e, want)
	}
}

// Promise 20.1.
func TestRead(t *testing.T) {
	num, null := value.Int, value.Null()
	checkRead(t, stream(rows), three(0), -1)
	checkRead(t, stream(rows+"more"), three(0), -1)
	checkRead(t, stream(rows, "Size", num(2)), three(0)[:2], -1)
	checkRead(t, stream(rows, "Size", num(0)), nil, -1)
	checkRead(t, stream("", "Size", num(0)), nil, -1)
	checkRead(t, stream(rows, "Prev", num(0)), three(0), 0)
	checkRead(t, stream(rows, "Prev", num(api.MaxInt), "Root", value.Ref(1, 0), "ID", ints(1), "XRefStm", num(-4), "Info", null), three(0), api.MaxInt)
	checkRead(t, api.Item{Num: api.MaxNum, Gen: api.MaxGen, Obj: stream(rows).Obj}, three(0), -1)
	checkRead(t, stream(rows, "Index", ints(0, 3)), three(0), -1)
	checkRead(t, stream(rows, "Index", ints(7, 3)), three(7), -1)
	checkRead(t, stream(rows, "Index", ints(8189, 3), "Size", num(0)), three(8189), -1)
	checkRead(t, stream(rows, "Index", ints()), nil, -1)
	checkRead(t, stream(rows, "Index", ints(5, 0, 5, 0, 8192, 0)), nil, -1)
	checkRead(t, stream(rows, "Index", ints(3, 0, 3, 1, 4, 1, 4+1, 0, 7, 1)), []api.Slot{{Num: 3, B: 255}, {Num: 4, Kind: 1, A: 0x1234, B: 1}, {Num: 7, Kind: 2, A: 5, B: 7}}, -1)
	checkRead(t, stream(rows, "Index", ints(1, 1, 8190, 2), "Size", num(8192)), []api.Slot{{Num: 1, B: 255}, {Num: 8190, Kind: 1, A: 0x1234, B: 1}, {Num: 8191, Kind: 2, A: 5, B: 7}}, -1)
}

// Promise 20.1: the widths of the fields.
func TestReadWidths(t *testing.T) {
	num := value.Int
	one := func(kind, a, b int) []api.Slot { return []api.Slot{{Kind: kind, A: a, B: b}} }
	for _, c := range []struct {
		data    string
		a, b, c int
		want    []api.Slot
	}{
		{"", 0, 0, 0, one(1, 0, 0)}, {"\x05", 0, 1, 0, one(1, 5, 0)}, {"\x05", 0, 0, 1, one(1, 0, 5)}, {"\x00", 1, 0, 0, one(0, 0, 0)}, {"\x01", 1, 0, 0, one(1, 0, 0)},
		{"\x02\x01", 1, 1, 0, one(2, 1, 0)}, {"\x00\x02\x1f\xff\x1f\xff", 2, 2, 2, one(2, 8191, 8191)}, {"\x00\x00\x00\x02\x00\x00\x00\x01\x00\x00\x00\x03", 4, 4, 4, one(2, 1, 3)}, {"\x00\x00\x00\x00\x00\x09", 3, 3, 0, one(0, 9, 0)},
		{"\x01\x7f\xff\xff\xff\xff\xff", 1, 4, 2, one(1, api.MaxInt, api.MaxGen)}, {"\x00\x7f\xff\xff\xff\x00\xff\xff", 1, 4, 3, one(0, api.MaxInt, api.MaxGen)}, {"\x12\x34\x56\x78", 0, 4, 0, one(1, 0x12345678, 0)}, {"\x12\x34\x56\x00\x00\x00\x09", 0, 3, 4, one(1, 0x123456, 9)}, {"\x01\x00\x00", 1, 2, 0, one(1, 0, 0)},
	} {
		i := stream(c.data, "W", ints(c.a, c.b, c.c), "Size", num(1))
		checkRead(t, i, c.want, -1)
		if len(c.data) > 0 {
			i.Obj.S = c.data[:len(c.data)-1]
			refuses(t, i, 0, api.ErrStream)
		}
	}
	for _, c := range []struct {
		data    string
		a, b, c int
	}{
		{"\x03", 1, 0, 0}, {"\xff", 1, 0, 0}, {"\x01\x00", 2, 0, 0}, {"\x01\x00\x00\x00", 4, 0, 0}, {"\x80\x00\x00\x01", 4, 0, 0}, {"\x02", 1, 0, 0}, {"\x02\x00", 1, 1, 0}, {"\x02\x20\x00", 1, 2, 0}, {"\x02\x01\x20\x00", 1, 1, 2},
		{"\x01\x80\x00\x00\x00", 1, 4, 0}, {"\x01\xff\xff\xff\xff", 1, 4, 0}, {"\x00\x80\x00\x00\x00", 1, 4, 0}, {"\x01\x01\x00\x00", 1, 0, 3}, {"\x00\x01\x00\x00", 1, 0, 3}, {"\xff\xff\xff\xff", 0, 0, 4}, {"\xff\xff\xff\xff", 0, 4, 0}, {"\x03\x01\x01", 1, 1, 1},
	} {
		refuses(t, stream(c.data, "W", ints(c.a, c.b, c.c), "Size", num(1)), 0, api.ErrStream)
	}
	all := stream("", "W", ints(0, 0, 0), "Size", num(api.MaxNum+1))
	var want []api.Slot
	for n := range api.MaxNum + 1 {
		want = append(want, api.Slot{Num: n, Kind: api.SlotPlain})
	}
	checkRead(t, all, want, -1)
}

// Promise 20.1: what is no cross-reference stream.
func TestReadForms(t *testing.T) {
	num, null := value.Int, value.Null()
	for _, changes := range [][]any{
		{"Type", null}, {"Type", value.Name("Xref")}, {"Type", value.Name("ObjStm")}, {"Type", value.String("XRef")}, {"Type", value.Ref(1, 0)}, {"Type", value.Array(value.Name("XRef"))},
		{"Size", null}, {"Size", num(-1)}, {"Size", num(api.MaxNum + 2)}, {"Size", num(api.MaxInt)}, {"Size", value.Real(30000)}, {"Size", value.Ref(3, 0)}, {"Size", value.String("3")}, {"Size", value.Bool(true)}, {"Size", num(-1), "Index", ints(0, 3)}, {"Size", num(api.MaxNum + 2), "Index", ints(0, 3)}, {"Size", null, "Index", ints(0, 3)}, {"Size", num(4)}, {"Size", num(8192)},
		{"W", null}, {"W", ints()}, {"W", ints(1, 2)}, {"W", ints(1, 2, 1, 0)}, {"W", ints(-1, 2, 1)}, {"W", ints(1, -1, 1)}, {"W", ints(1, 2, -1)}, {"W", ints(5, 2, 1)}, {"W", ints(1, 5, 1)}, {"W", ints(1, 2, 5)}, {"W", ints(1, 2, api.MaxInt)}, {"W", num(1)}, {"W", value.Array(num(1), num(2), value.Real(10000))}, {"W", value.Array(num(1), value.Ref(2, 0), num(1))}, {"W", value.Array(null, num(2), num(1))}, {"W", sample.Dict("A B C", num(1), num(2), num(1))},
		{"Index", ints(0)}, {"Index", ints(0, 1, 1)}, {"Index", num(0)}, {"Index", value.Ref(1, 0)}, {"Index", ints(-1, 1)}, {"Index", ints(0, -1)}, {"Index", ints(3, 1, 2, 1)}, {"Index", ints(3, 1, 3, 1)}, {"Index", ints(3, 2, 4, 1)}, {"Index", ints(3, 0, 2, 1)}, {"Index", ints(0, 3, 1, 0)}, {"Index", ints(8192, 1)}, {"Index", ints(8193, 0)}, {"Index", ints(8190, 3)}, {"Index", ints(0, 8193)}, {"Index", ints(1, api.MaxInt)}, {"Index", ints(api.MaxInt, api.MaxInt)}, {"Index", ints(0, 4)}, {"Index", ints(0, 2, 5, 2)}, {"Index", ints(5, 2, -1, 0)},
		{"Index", value.Array(num(0), value.Real(30000))}, {"Index", value.Array(value.Real(0), num(3))}, {"Index", value.Array(value.Ref(1, 0), num(3))}, {"Index", sample.Dict("A B", num(0), num(3))}, {"Index", value.Array(num(0), null)}, {"Index", value.Array(ints(0, 3))},
		{"Prev", num(-1)}, {"Prev", num(-api.MaxInt)}, {"Prev", value.Real(0)}, {"Prev", value.Ref(1, 0)}, {"Prev", value.String("1")}, {"Prev", ints(1)},
	} {
		refuses(t, stream(rows, changes...), 0, api.ErrStream)
	}
	for n := range len(rows) {
		refuses(t, stream(rows[:n]), 0, api.ErrStream)
	}
	for _, o := range []api.Object{null, num(7), value.Name("XRef"), value.Array(), {Kind: api.KDict, Keys: stream("").Obj.Keys, Kids: stream("").Obj.Kids}, {Kind: api.KStream}} {
		refuses(t, api.Item{Num: 9, Obj: o}, 0, api.ErrStream)
	}
}

// Promise 20.1: errors, and which of them comes first.
func TestReadErrors(t *testing.T) {
	num, name := value.Int, value.Name
	good := stream(rows)
	bad := []api.Item{{Num: 0, Obj: good.Obj}, {Num: api.MaxNum + 1, Obj: good.Obj}, {Num: 1, Gen: -1, Obj: good.Obj}, {Num: 1, Gen: api.MaxGen + 1, Obj: api.Object{Kind: 99}}}
	for _, i := range bad {
		refuses(t, i, 0, api.ErrRange)
		refuses(t, i, -1, api.ErrArg)
	}
	for _, at := range []int{-1, math.MinInt} {
		refuses(t, good, at, api.ErrArg)
		refuses(t, api.Item{}, at, api.ErrArg)
	}
	refuses(t, api.Item{Num: 1, Obj: api.Object{Kind: 99}}, 0, api.ErrKind)
	refuses(t, api.Item{Num: 1, Obj: value.Ref(1, 0)}, 0, api.ErrKind)
	refuses(t, api.Item{Num: 1, Obj: api.Object{Kind: api.KStream, Keys: []string{"Length", "Type"}, Kids: []api.Object{num(1), name("XRef")}}}, 0, api.ErrForm)
	refuses(t, api.Item{Num: 1, Obj: api.Object{Kind: api.KStream, Keys: []string{"W"}, Kids: []api.Object{sample.Wide(api.MaxKids + 1)}}}, 0, api.ErrMany)
	for _, c := range []struct {
		want    api.Errno
		data    string
		changes []any
	}{
		{api.ErrFilter, rows, []any{"Filter", name("LZWDecode")}}, {api.ErrKind, rows, []any{"Filter", num(1)}}, {api.ErrForm, rows, []any{"Filter", name("AHx")}}, {api.ErrArg, rows, []any{"DecodeParms", sample.Dict("")}}, {api.ErrForm, "zz>", []any{"Filter", name("ASCIIHexDecode")}},
		{api.ErrStream, rows, []any{"Filter", name("LZWDecode"), "W", ints(1)}}, {api.ErrStream, "zz>", []any{"Filter", name("AHx"), "Prev", num(-1)}}, {api.ErrStream, rows, []any{"Filter", num(1), "Type", name("X")}}, {api.ErrStream, rows, []any{"Filter", num(1), "Index", ints(1)}}, {api.ErrFilter, "", []any{"Filter", name("LZWDecode"), "Size", num(8192)}},
		{api.ErrStream, rows, []any{"Filter", name("LZWDecode"), "Index", ints(8192, 1)}}, {api.ErrStream, rows, []any{"Filter", name("LZWDecode"), "Size", num(api.MaxNum + 2)}}, {api.ErrStream, "00>", []any{"Filter", name("AHx")}},
	} {
		refuses(t, stream(c.data, c.changes...), 0, c.want)
	}
	hex := stream("00 00 00 FF 01 12 34 01 02 00 05 07>", "Filter", name("AHx"))
	checkRead(t, hex, three(0), -1)
	packed, e := filter.Encode(good.Obj, []string{"A85", "Fl"}, []api.Parms{{Predictor: 1, Colors: 1, Columns: 1}, {Predictor: 15, Colors: 1, Columns: 4}}, rows)
	if e != api.OK {
		t.Fatal(e)
	}
	checkRead(t, api.Item{Num: 9, Obj: packed}, three(0), -1)
}

// Promise 20.2.
func TestWidths(t *testing.T) {
	slot := func(a, b int) api.Slot { return api.Slot{A: a, B: b} }
	for _, c := range []struct {
		slots []api.Slot
		want  [3]int
	}{
		{nil, [3]int{1, 0, 0}}, {[]api.Slot{{Num: 1, Kind: 1, A: 300}, {Num: 2, Kind: 1, A: 5}}, [3]int{1, 2, 0}}, {[]api.Slot{slot(0, 0)}, [3]int{1, 0, 0}}, {[]api.Slot{slot(1, 0)}, [3]int{1, 1, 0}}, {[]api.Slot{slot(0, 1)}, [3]int{1, 0, 1}},
		{[]api.Slot{slot(255, 256)}, [3]int{1, 1, 2}}, {[]api.Slot{slot(256, 255)}, [3]int{1, 2, 1}}, {[]api.Slot{slot(65535, 65536)}, [3]int{1, 2, 3}}, {[]api.Slot{slot(65536, 65535)}, [3]int{1, 3, 2}}, {[]api.Slot{slot(1<<24-1, 1<<24)}, [3]int{1, 3, 4}}, {[]api.Slot{slot(1<<24, 1<<24-1)}, [3]int{1, 4, 3}}, {[]api.Slot{slot(1<<32-1, 1<<32)}, [3]int{1, 4, 4}}, {[]api.Slot{slot(1<<32, 1<<40)}, [3]int{1, 4, 4}}, {[]api.Slot{slot(math.MaxInt, math.MaxInt)}, [3]int{1, 4, 4}}, {[]api.Slot{slot(api.MaxInt, api.MaxGen)}, [3]int{1, 4, 2}},
		{[]api.Slot{slot(-1, -1)}, [3]int{1, 0, 0}}, {[]api.Slot{slot(math.MinInt, 7)}, [3]int{1, 0, 1}}, {[]api.Slot{slot(7, math.MinInt)}, [3]int{1, 1, 0}}, {[]api.Slot{slot(-300, 5), slot(3, -70000)}, [3]int{1, 1, 1}},
		{[]api.Slot{slot(1, 1), slot(300, 1), slot(1, 70000), slot(2, 2)}, [3]int{1, 2, 3}}, {[]api.Slot{{Num: 9999999, Kind: 99}}, [3]int{1, 0, 0}},
	} {
		if got := cross.Widths(c.slots); got != c.want {
			t.Errorf("Widths(%v) = %v, want %v", c.slots, got, c.want)
		}
	}
	for n := range 1 << 17 {
		w := 0
		for n>>(8*w) > 0 {
			w++
		}
		if got := cross.Widths([]api.Slot{slot(n, n/2), slot(n/3, n)}); got != [3]int{1, w, w} {
			t.Errorf("Widths of %d = %v", n, got)
		}
	}
}

// sections returns sections that Make takes.
func sections() []api.Section {
	trailer := sample.Dict("A ID Info Prev Root Size Type W", value.Int(1), ints(2, 3), value.Ref(4, 0), value.Int(5), value.Ref(1, 0), value.Int(99), value.Name("T"), ints(0))
	list := []api.Section{
		{Trailer: sample.Dict(""), Prev: -1, Own: 1}, {Trailer: sample.Dict(""), Own: api.MaxNum}, {Slots: three(0), Trailer: trailer, Prev: api.MaxInt, Own: 3}, {Slots: three(8189), Trailer: trailer, Prev: 17, Own: 3, At: -9, Hybrid: 99},
		{Slots: []api.Slot{{Num: 0, B: api.MaxGen}, {Num: 8191, Kind: api.SlotPlain, A: api.MaxInt, B: api.MaxGen}}, Trailer: trailer, Prev: -1, Own: 1}, {Slots: []api.Slot{{}}, Trailer: trailer, Prev: -1, Own: 1}, {Slots: []api.Slot{{Num: 5, Kind: 1}}, Trailer: trailer, Prev: -1, Own: 1},
	}
	for n := range 300 {
		x := api.Section{Trailer: trailer, Prev: n - 1, Own: n + 1}
		for num := range n / 2 {
			switch mixed := (n*n + num*num*num + n*num) % 9; {
			case mixed < 2:
				x.Slots = append(x.Slots, api.Slot{Num: num, A: n, B: num})
			case mixed < 5:
				x.Slots = append(x.Slots, api.Slot{Num: num, Kind: api.SlotPlain, A: n * num * num, B: mixed % n})
			case mixed < 7:
				x.Slots = append(x.Slots, api.Slot{Num: num, Kind: api.SlotPacked, A: n, B: num})
			}
		}
		list = append(list, x)
	}
	all := api.Section{Trailer: sample.Dict("Root", value.Ref(1, 0)), Prev: 0, Own: 8191}
	for num := range api.MaxNum + 1 {
		all.Slots = append(all.Slots, api.Slot{Num: num, Kind: num % 3, A: num%100 + 1, B: num % 50})
	}
	odd := all
	odd.Slots = nil
	// As many runs as an array can tell of.
	for num := 0; num < api.MaxNum-1; num += 2 {
		odd.Slots = append(odd.Slots, api.Slot{Num: num, Kind: api.SlotPlain, A: num})
	}
	return append(list, all, odd)
}

// slowMade returns the keys of the stream that Make should make, and its data, by the words of the chapter.
func slowMade(x api.Section) (api.Object, string) {
	w := cross.Widths(x.Slots)
	o := docs.Trailer(x.Trailer)
	size, index, data := 0, value.Array(), ""
	for i, one := range x.Slots {
		size = one.Num + 1
		if i == 0 || x.Slots[i-1].Num+1 < one.Num {
			index.Kids = append(index.Kids, value.Int(int64(one.Num)), value.Int(0))
		}
		index.Kids[len(index.Kids)-1].N++
		data += string([]byte{byte(one.Kind)})
		for i, n := range []int{one.A, one.B} {
			four := string([]byte{byte(n >> 24), byte(n >> 16), byte(n >> 8), byte(n)})
			data += four[4-w[i+1]:]
		}
	}
	parms := sample.Dict("Colors Columns Predictor", value.Int(1), value.Int(int64(w[0]+w[1]+w[2])), value.Int(12))
	for _, c := range []struct {
		key string
		v   api.Object
	}{{"Type", value.Name("XRef")}, {"Size", value.Int(int64(size))}, {"W", ints(w[:]...)}, {"Index", index}, {"Filter", value.Name("FlateDecode")}, {"DecodeParms", parms}} {
		o, _ = value.Set(o, c.key, c.v)
	}
	if x.Prev != -1 {
		o, _ = value.Set(o, "Prev", value.Int(int64(x.Prev)))
	}
	return o, data
}

// Promises 20.2 and 20.3.
func TestMake(t *testing.T) {
	for n, x := range sections() {
		slots, trailer := slices.Clone(x.Slots), value.Clone(x.Trailer)
		i, e := cross.Make(x)
		if e != api.OK || i.Num != x.Own || i.Gen != 0 || i.Obj.Kind != api.KStream || value.Check(i.Obj) != api.OK {
			t.Errorf("Make(%d) = %s, %d", n, brief(i), e)
			continue
		}
		dict, data := slowMade(x)
		if got := (api.Object{Kind: api.KDict, Keys: i.Obj.Keys, Kids: i.Obj.Kids}); !value.Same(got, dict) {
			t.Errorf("Make(%d) has the keys %s, want %s", n, brief(got), brief(dict))
		}
		if got, e := filter.Decode(i.Obj); got != data || e != api.OK {
			t.Errorf("Make(%d) has the data %s, %d, want %s", n, brief(got), e, brief(data))
		}
		back, e := cross.Read(i, 5)
		want := api.Section{At: 5, Slots: x.Slots, Trailer: dict, Prev: x.Prev, Hybrid: -1, Own: x.Own}
		if !same(back, want) || e != api.OK {
			t.Errorf("Read of Make(%d) = %s, %d", n, brief(back), e)
		}
		spoil(i.Obj)
		spoil(back.Trailer)
		if !slices.Equal(slots, x.Slots) || !value.Same(trailer, x.Trailer) {
			t.Errorf("Make(%d) shares memory", n)
		}
	}
}

// spoil changes all that an object has in memory of its own.
func spoil(o api.Object) {
	for i := range o.Keys {
		o.Keys[i] += "x"
	}
	for i := range o.Kids {
		spoil(o.Kids[i])
		o.Kids[i].N++
	}
}

// Aliasing: what Read returns is memory of its own.
func TestReadMemory(t *testing.T) {
	i := stream(rows, "Index", ints(0, 3), "ID", value.Array(ints(1)))
	was := value.Clone(i.Obj)
	x, _ := cross.Read(i, 0)
	spoil(x.Trailer)
	if !value.Same(i.Obj, was) {
		t.Error("Read shares memory")
	}
}

// Promise 20.2: errors, and which of them comes first.
func TestMakeErrors(t *testing.T) {
	dict, bad := sample.Dict(""), api.Object{Kind: 99}
	plain := func(num int) api.Slot { return api.Slot{Num: num, Kind: api.SlotPlain} }
	for n, c := range []struct {
		want api.Errno
		x    api.Section
	}{
		{api.ErrRange, api.Section{Slots: []api.Slot{plain(8192)}, Trailer: bad}}, {api.ErrKind, api.Section{Slots: []api.Slot{{Kind: 3}}, Trailer: dict, Own: 1}}, {api.ErrTwice, api.Section{Slots: []api.Slot{plain(1), plain(1)}, Own: 1}}, {api.ErrArg, api.Section{Slots: []api.Slot{plain(2), plain(1)}, Trailer: value.Name("\x00"), Own: 1}}, {api.ErrRange, api.Section{Slots: []api.Slot{{Num: 1, Kind: api.SlotPacked}}, Trailer: dict, Own: 1}}, {api.ErrTwice, api.Section{Slots: []api.Slot{plain(1), plain(1)}, Own: -1, Prev: -5}},
		{api.ErrArg, api.Section{Trailer: dict}}, {api.ErrArg, api.Section{Trailer: dict, Own: -1}}, {api.ErrArg, api.Section{Trailer: dict, Own: api.MaxNum + 1}}, {api.ErrArg, api.Section{Trailer: dict, Own: math.MinInt}}, {api.ErrArg, api.Section{Trailer: dict, Own: 1, Prev: -2}}, {api.ErrArg, api.Section{Trailer: dict, Own: 1, Prev: api.MaxInt + 1}}, {api.ErrArg, api.Section{Trailer: dict, Own: 1, Prev: math.MinInt}}, {api.ErrArg, api.Section{Trailer: bad, Own: 0}}, {api.ErrArg, api.Section{Trailer: value.Name("\x00"), Own: 1, Prev: math.MaxInt}},
		{api.ErrKind, api.Section{Trailer: bad, Own: 1}}, {api.ErrForm, api.Section{Trailer: value.Name("\x00"), Own: 1}}, {api.ErrLong, api.Section{Trailer: value.Name(strings.Repeat("n", api.MaxName+1)), Own: 1}}, {api.ErrDeep, api.Section{Trailer: sample.Nest(dict, api.MaxDepth), Own: 1}}, {api.ErrRange, api.Section{Trailer: sample.Dict("A Root", value.Int(1), value.Ref(0, 0)), Own: 1}}, {api.ErrForm, api.Section{Trailer: sample.Dict("B A", dict, dict), Own: 1}}, {api.ErrMany, api.Section{Trailer: sample.Broad(api.MaxKids + 1), Own: 1}},
		{api.ErrKind, api.Section{Own: 1}}, {api.ErrKind, api.Section{Trailer: value.Array(), Own: 1}}, {api.ErrKind, api.Section{Trailer: value.Ref(1, 0), Own: 1}}, {api.ErrKind, api.Section{Trailer: api.Object{Kind: api.KStream}, Own: 1}},
	} {
		if i, e := cross.Make(c.x); !value.Same(i.Obj, api.Object{}) || i.Num != 0 || i.Gen != 0 || e != c.want {
			t.Errorf("Make %d (%s) = %s, %d, want %d", n, brief(c.x), brief(i), e, c.want)
		}
	}
}

// Promise 20.2: more runs than an array can tell of have the error of package value.
func TestMakeManyRuns(t *testing.T) {
	x := api.Section{Trailer: sample.Dict(""), Prev: -1, Own: 1}
	for num := 0; num <= api.MaxNum; num += 2 {
		x.Slots = append(x.Slots, api.Slot{Num: num, Kind: api.SlotPlain})
	}
	if runs := table.Runs(x.Slots); 2*len(runs) != api.MaxKids+1 {
		t.Fatalf("%d runs", len(runs))
	}
	if i, e := cross.Make(x); i.Num != 0 || !value.Same(i.Obj, api.Object{}) || e != api.ErrMany {
		t.Errorf("Make = %s, %d", brief(i), e)
	}
}

// Promise 20.3: a trailer as wide as a dictionary may be, of which three keys are kept.
func TestMakeBroad(t *testing.T) {
	x := api.Section{Slots: three(0), Trailer: sample.Broad(api.MaxKids), Prev: 3, Own: 2}
	x.Trailer.Keys[0] = "ID"
	i, e := cross.Make(x)
	if id, ok := value.Get(i.Obj, "ID"); e != api.OK || !ok || id.N != 0 || len(i.Obj.Keys) != 8 {
		t.Errorf("Make = %s, %d", brief(i), e)
	}
	if back, e := cross.Read(i, 0); e != api.OK || !slices.Equal(back.Slots, x.Slots) || back.Prev != 3 || back.Own != 2 {
		t.Errorf("Read = %s, %d", brief(back), e)
	}
}
