package packed_test

import (
	"fmt"
	"math"
	"slices"
	"strconv"
	"strings"
	"testing"

	"foliant/api"
	"foliant/filter"
	"foliant/packed"
	"foliant/sample"
	"foliant/value"
)

// brief shows the beginning of anything.
func brief(x any) string { return fmt.Sprintf("%.300s", fmt.Sprintf("%q", fmt.Sprint(x))) }

// item returns an item of generation 0.
func item(num int, o api.Object) api.Item { return api.Item{Num: num, Obj: o} }

// sameItem reports whether two items are equal.
func sameItem(a, b api.Item) bool {
	return a.Num == b.Num && a.Gen == b.Gen && value.Same(a.Obj, b.Obj)
}

// same reports whether two lists of items are equal.
func same(a, b []api.Item) bool { return slices.EqualFunc(a, b, sameItem) }

// stream returns the object stream with the given data, whose entries are then changed; an entry that is set to null is taken away.
func stream(n, first int, data string, changes ...any) api.Object {
	o := api.Object{Kind: api.KStream, Keys: []string{"First", "N", "Type"}, Kids: []api.Object{value.Int(int64(first)), value.Int(int64(n)), value.Name("ObjStm")}, S: data}
	for i := 0; i < len(changes); i += 2 {
		key, v := changes[i].(string), changes[i+1].(api.Object)
		at, ok := slices.BinarySearch(o.Keys, key)
		if ok {
			o.Keys, o.Kids = slices.Delete(o.Keys, at, at+1), slices.Delete(o.Kids, at, at+1)
		}
		if v.Kind != api.KNull {
			o.Keys, o.Kids = slices.Insert(o.Keys, at, key), slices.Insert(o.Kids, at, v)
		}
	}
	return o
}

// encoded returns the stream whose data is that of o, encoded with the named filters.
func encoded(o api.Object, names ...string) api.Object {
	o, e := filter.Encode(o, names, nil, o.S)
	if e != api.OK {
		panic(fmt.Sprint("no such stream: ", brief(o), e))
	}
	return o
}

// noStreams are objects that have no count, with the error that tells so.
func noStreams() map[api.Errno][]api.Object {
	num, first := value.Int(1), value.Int(4)
	change := func(changes ...any) api.Object { return stream(1, 4, "7 0 12", changes...) }
	dict := change()
	dict.Kind, dict.S = api.KDict, ""
	odd := change()
	odd.Kids = odd.Kids[:2]
	twice := change()
	twice.Keys, twice.Kids = append([]string{"N"}, twice.Keys...), append([]api.Object{value.Name("x")}, twice.Kids...)
	return map[api.Errno][]api.Object{
		api.ErrKind: {value.Null(), value.Int(5), value.Name("ObjStm"), value.Ref(1, 0), value.Array(), dict, {Kind: 99, Keys: dict.Keys, Kids: dict.Kids}, {Kind: -1}},
		api.ErrStream: {
			{Kind: api.KStream}, odd, twice,
			change("Type", value.Null()), change("Type", value.Name("XRef")), change("Type", value.Name("objstm")), change("Type", value.Name("")), change("Type", value.String("ObjStm")), change("Type", value.Ref(1, 0)), change("Type", value.Array(value.Name("ObjStm"))),
			change("N", value.Null()), change("N", value.Int(-1)), change("N", value.Int(api.MaxNum+1)), change("N", value.Int(math.MaxInt64)), change("N", value.Int(math.MinInt64)), change("N", value.Real(10000)), change("N", value.Ref(1, 0)), change("N", value.String("1")), change("N", value.Array(num)), change("N", value.Bool(true)),
			change("First", value.Null()), change("First", value.Int(-1)), change("First", value.Int(-api.MaxInt)), change("First", value.Real(40000)), change("First", value.Ref(4, 0)), change("First", value.Name("4")), change("First", value.Array(first)),
		},
	}
}

// Promise 21.1.
func TestCount(t *testing.T) {
	for want, list := range noStreams() {
		for i, o := range list {
			if n, e := packed.Count(o); n != 0 || e != want {
				t.Errorf("Count %d = %d, %d, want %d", i, n, e, want)
			}
			if l, e := packed.Read(o); len(l) != 0 || e != want {
				t.Errorf("Read %d = %s, %d, want %d", i, brief(l), e, want)
			}
			for _, place := range []int{-1, 0, 1} {
				if i, e := packed.Get(o, place); !sameItem(i, api.Item{}) || e != want {
					t.Errorf("Get(%s, %d) = %s, %d, want %d", brief(o), place, brief(i), e, want)
				}
			}
		}
	}
	for _, n := range []int{0, 1, 100, 101, api.MaxNum} {
		for _, first := range []int{0, 1, api.MaxInt, math.MaxInt64} {
			if got, e := packed.Count(stream(n, first, "")); got != n || e != api.OK {
				t.Errorf("Count with N %d and First %d = %d, %d", n, first, got, e)
			}
		}
	}
}

// Promise 21.1: a stream that is not valid otherwise is read all the same.
func TestCountOfInvalid(t *testing.T) {
	want := []api.Item{item(7, value.Int(12))}
	o := stream(1, 4, "7 0 12")
	mixed := api.Object{Kind: api.KStream, N: 5, G: -1, Keys: []string{"Type", "N", "Length", "\x00", "First", "N"}, Kids: []api.Object{value.Name("ObjStm"), value.Int(1), {Kind: 99}, value.Null(), value.Int(4), value.Name("x")}, S: o.S}
	marked := stream(1, 4, "7 0 12", "Type", api.Object{Kind: api.KName, S: "ObjStm", N: 3})
	deep := stream(1, 4, "7 0 12", "A", sample.Nest(value.Null(), 2*api.MaxDepth))
	for i, o := range []api.Object{o, mixed, marked, deep} {
		n, e := packed.Count(o)
		if n != 1 || e != api.OK {
			t.Errorf("Count %d = %d, %d", i, n, e)
		}
		checkRead(t, o, want)
	}
}

// checkRead holds what Read and Get answer against the items that a stream has.
func checkRead(t *testing.T, o api.Object, want []api.Item) {
	t.Helper()
	if l, e := packed.Read(o); !same(l, want) || e != api.OK {
		t.Errorf("Read(%s) = %s, %d, want %s", brief(o), brief(l), e, brief(want))
	}
	for place := range want {
		if i, e := packed.Get(o, place); !sameItem(i, want[place]) || e != api.OK {
			t.Errorf("Get(%s, %d) = %s, %d, want %s", brief(o), place, brief(i), e, brief(want[place]))
		}
	}
	for _, place := range []int{-1, len(want), math.MinInt, math.MaxInt} {
		if i, e := packed.Get(o, place); !sameItem(i, api.Item{}) || e != api.ErrRange {
			t.Errorf("Get(%s, %d) = %s, %d", brief(o), place, brief(i), e)
		}
	}
}

// Promise 21.2.
func TestRead(t *testing.T) {
	num := func(n int64) api.Object { return value.Int(n) }
	spaced := "+7%x)\r-0 \x00\f\n 8 9"
	for _, c := range []struct {
		o    api.Object
		want []api.Item
	}{
		{stream(1, 4, "7 0 12"), []api.Item{item(7, num(12))}},
		{stream(2, 8, "3 0 5 5 null true"), []api.Item{item(3, value.Null()), item(5, value.Bool(true))}},
		{stream(0, 0, ""), nil},
		{stream(0, 0, ")(no objects"), nil},
		{stream(0, 3, ")(>no objects"), nil},
		{stream(0, 5, "7 0 1"), nil},
		{stream(1, 5, "7 0 ) 12"), []api.Item{item(7, num(12))}},
		{stream(1, 5, "7 0 (12"), []api.Item{item(7, num(12))}},
		{stream(1, 3, "7 012"), []api.Item{item(7, num(12))}},
		{stream(1, 3, "7 0"+"1"), []api.Item{item(7, num(1))}},
		{stream(1, 6, "7 0 9 12 13"), []api.Item{item(7, num(12))}},
		{stream(1, len(spaced), spaced+"12"), []api.Item{item(7, num(12))}},
		{stream(2, 8, "3 0 3 0 12"), []api.Item{item(3, num(12)), item(3, num(12))}},
		{stream(2, 8, "9 3 2 0 12 true"), []api.Item{item(9, value.Bool(true)), item(2, num(12))}},
		{stream(2, 8, "9 1 2 0 12 0 x"), []api.Item{item(9, num(2)), item(2, num(12))}},
		{stream(2, 11, "1 0 8191 1 [[2 0 R]]%x"), []api.Item{item(1, value.Array(value.Array(value.Ref(2, 0)))), item(8191, value.Array(value.Ref(2, 0)))}},
		{stream(1, 4, "7 0 <</A 1/B null>>stream\nx"), []api.Item{item(7, sample.Dict("A", num(1)))}},
		{stream(1, 4, "7 0 12", "Filter", value.Array()), []api.Item{item(7, num(12))}},
		{encoded(stream(1, 4, "7 0 12"), "FlateDecode"), []api.Item{item(7, num(12))}},
		{encoded(stream(1, 4, "7 0 12"), "ASCIIHexDecode", "RunLengthDecode", "ASCII85Decode", "FlateDecode"), []api.Item{item(7, num(12))}},
	} {
		checkRead(t, c.o, c.want)
	}
	pairs := strings.Repeat("8191 0 ", api.MaxNum)
	full := slices.Repeat([]api.Item{item(8191, num(12))}, api.MaxNum)
	checkEnds(t, stream(api.MaxNum, len(pairs), pairs+"12"), full)
	long := "7 0 " + strings.Repeat(" ", api.MaxData-6) + "12"
	checkRead(t, stream(1, 4, long), []api.Item{item(7, num(12))})
	checkRead(t, stream(1, api.MaxData-2, long), []api.Item{item(7, num(12))})
}

// checkEnds does what checkRead does, but for the first and the last place only.
func checkEnds(t *testing.T, o api.Object, want []api.Item) {
	t.Helper()
	if l, e := packed.Read(o); !same(l, want) || e != api.OK {
		t.Errorf("Read(%s) = %s, %d", brief(o), brief(l), e)
	}
	for _, place := range []int{0, len(want) - 1} {
		if i, e := packed.Get(o, place); !sameItem(i, want[place]) || e != api.OK {
			t.Errorf("Get(%s, %d) = %s, %d", brief(o), place, brief(i), e)
		}
	}
}

// refuses checks that a stream can't be read, nor any of its items got.
func refuses(t *testing.T, o api.Object, want api.Errno) {
	t.Helper()
	if l, e := packed.Read(o); len(l) > 0 || e != want {
		t.Errorf("Read(%s) = %s, %d, want %d", brief(o), brief(l), e, want)
	}
	n, _ := packed.Count(o)
	for place := range n {
		if i, e := packed.Get(o, place); !sameItem(i, api.Item{}) || e != want {
			t.Errorf("Get(%s, %d) = %s, %d, want %d", brief(o), place, brief(i), e, want)
		}
	}
	for _, place := range []int{-1, n} {
		if i, e := packed.Get(o, place); !sameItem(i, api.Item{}) || e != api.ErrRange {
			t.Errorf("Get(%s, %d) = %s, %d", brief(o), place, brief(i), e)
		}
	}
}

// Promise 21.2: what is wrong with a stream, or with its pairs.
func TestReadRefuses(t *testing.T) {
	for _, c := range []struct {
		n, first int
		data     string
	}{
		{0, 1, ""}, {0, 7, "7 0 12"}, {1, 7, "7 0 12"}, {1, api.MaxInt, "7 0 12"}, {1, math.MaxInt64, "7 0 12"},
		{1, 0, "7 0 12"}, {1, 1, "7 0 12"}, {1, 2, "7 0 12"}, {2, 4, "7 0 8 0 12"}, {2, 5, "7 0 8 0 12"}, {2, 6, "7 0 8 0 12"}, {1, 6, "%7 0 12"}, {1, 0, ""}, {api.MaxNum, 4, "7 0 12"},
		{1, 4, ") 0 12"}, {1, 4, "7 ) 12"}, {1, 3, "( )12"}, {1, 4, "7 (0) 12"}, {1, 4, "7 (012"}, {2, 8, "7 0 8 ) 12"}, {1, 15, "7 99999999999  12"}, {1, 13, "99999999999 012"}, {1, 5, "7 <x>12"},
		{1, 5, "7. 0 12"}, {1, 5, "7 0. 12"}, {1, 4, "x 0 12"}, {1, 4, "7 x 12"}, {1, 5, "/7 0 12"}, {1, 4, "[ 0 12"}, {1, 6, "(7) 0 12"}, {1, 8, "7 null  12"}, {1, 6, "7 0x2 12"}, {1, 4, "7/0 12"},
		{1, 4, "0 0 12"}, {1, 5, "-7 0 12"}, {1, 7, "8192 0 12"}, {1, 13, "2147483647 0 12"}, {2, 8, "7 0 0 0 12"}, {2, 11, "7 0 8192 0 12"},
		{1, 5, "7 -1 12"}, {1, 4, "7 3 12"}, {1, 5, "7 99 12"}, {1, 13, "7 2147483647 12"}, {2, 8, "7 0 8 3 12"}, {2, 9, "7 0 8 -1 12"},
	} {
		refuses(t, stream(c.n, c.first, c.data), api.ErrStream)
		if !strings.Contains(strconv.Itoa(c.first), "92233") {
			refuses(t, encoded(stream(c.n, c.first, c.data), "Fl"), api.ErrStream)
		}
	}
}

// Promise 21.2: the errors of the filters come before those of the pairs, and after the count's.
func TestReadFilters(t *testing.T) {
	name, num := value.Name, value.Int
	for _, c := range []struct {
		data string
		key  string
		v    api.Object
		want api.Errno
	}{
		{"7", "Filter", name("LZW"), api.ErrFilter}, {"7", "Filter", num(1), api.ErrKind}, {"7", "Filter", value.Array(num(1)), api.ErrKind}, {"7", "Filter", value.Ref(1, 0), api.ErrKind}, {"7", "Filter", value.Array(name("AHx"), name("x")), api.ErrFilter},
		{"7", "Filter", value.Array(slices.Repeat([]api.Object{name("LZW")}, api.MaxFilter+1)...), api.ErrMany}, {"7", "DecodeParms", sample.Dict("Predictor", num(2)), api.ErrArg},
		{"7x", "Filter", name("AHx"), api.ErrForm}, {"", "Filter", name("Fl"), api.ErrEnd}, {"7", "Filter", name("Fl"), api.ErrEnd},
	} {
		for _, first := range []int{0, 1, 99, api.MaxInt} {
			o := stream(1, first, c.data, c.key, c.v)
			if _, e := filter.Decode(o); e != c.want {
				t.Errorf("Decode(%s) has the error %d, want %d", brief(o), e, c.want)
			}
			refuses(t, o, c.want)
			refuses(t, stream(0, first, c.data, c.key, c.v), c.want)
		}
	}
	broken := encoded(stream(1, 4, "7 0 12"), "Fl")
	broken.S = broken.S[:len(broken.S)-1] + "x"
	refuses(t, broken, api.ErrSum)
}

// Promise 21.2: an object with an error spoils Read, but not the items beside it.
func TestReadObjects(t *testing.T) {
	for text, want := range map[string]api.Errno{
		"": api.ErrEnd, " %12": api.ErrEnd, "[1": api.ErrEnd, "(": api.ErrEnd, "x": api.ErrForm, ")": api.ErrForm, "]": api.ErrForm, "<</A>>": api.ErrForm, "[R": api.ErrForm,
		"<</A 1/A 1>>": api.ErrTwice, "99999999999": api.ErrRange, "%\n1 0 R": api.ErrKind, " %x\n8191 65535 R": api.ErrKind, "[[]1 0 R R]": api.ErrForm, strings.Repeat("[", api.MaxDepth+1): api.ErrDeep, "/" + strings.Repeat("n", api.MaxName+1): api.ErrLong,
		"[" + strings.Repeat("1 ", api.MaxKids+1): api.ErrMany,
	} {
		pairs := "3 0 4 5 5 1 6 5 "
		o := stream(4, len(pairs), pairs+"12 / "+text)
		if l, e := packed.Read(o); len(l) > 0 || e != want {
			t.Errorf("Read(%s) = %s, %d, want %d", brief(o), brief(l), e, want)
		}
		for place, c := range []struct {
			item api.Item
			err  api.Errno
		}{{item(3, value.Int(12)), api.OK}, {api.Item{}, want}, {item(5, value.Int(2)), api.OK}, {api.Item{}, want}} {
			if i, e := packed.Get(o, place); !sameItem(i, c.item) || e != c.err {
				t.Errorf("Get(%s, %d) = %s, %d, want %s, %d", brief(o), place, brief(i), e, brief(c.item), c.err)
			}
		}
	}
	for pairs, want := range map[string]api.Errno{
		"3 0 4 3 5 4 ": api.ErrForm, "3 3 4 4 5 0 ": api.ErrEnd, "3 4 4 0 5 3 ": api.ErrKind, "3 6 4 4 5 0 ": api.ErrKind, "3 4 4 0 5 99 ": api.ErrStream,
	} {
		o := stream(3, len(pairs), pairs+"x) (2 0 R")
		if l, e := packed.Read(o); len(l) > 0 || e != want {
			t.Errorf("Read(%s) = %s, %d, want %d, which is the first one", brief(o), brief(l), e, want)
		}
	}
}
