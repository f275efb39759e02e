package value_test

import (
	"fmt"
	"math"
	"slices"
	"strconv"
	"strings"
	"testing"

	"foliant/api"
	"foliant/sample"
	"foliant/value"
)

// brief shows the beginning of an object.
func brief(o api.Object) string { return fmt.Sprintf("%.200s", fmt.Sprint(o)) }

// checkObject compares an answer with the one that is wanted, which is nothing beside an error.
func checkObject(t *testing.T, what string, got api.Object, e api.Errno, want api.Object, wantErr api.Errno) {
	t.Helper()
	if e != wantErr || !value.Same(got, want) {
		t.Errorf("%s = %s, %d, want %s, %d", what, brief(got), e, brief(want), wantErr)
	}
}

// pairs returns names and values that alternate.
func pairs(l ...any) []api.Object {
	var list []api.Object
	for _, x := range l {
		switch x := x.(type) {
		case string:
			list = append(list, value.Name(x))
		case int:
			list = append(list, value.Int(int64(x)))
		case api.Object:
			list = append(list, x)
		}
	}
	return list
}

// Promise 5.2.
func TestDict(t *testing.T) {
	null, none := value.Null(), api.Object{}
	for i, c := range []struct {
		pairs []api.Object
		want  api.Object
		err   api.Errno
	}{
		{nil, sample.Dict(""), api.OK},
		{pairs("B", 1, "A", null, "C", 3), sample.Dict("B C", value.Int(1), value.Int(3)), api.OK},
		{pairs("b", 1, "B", 2, "a", 3, "", 4), api.Object{Kind: api.KDict, Keys: []string{"", "B", "a", "b"}, Kids: pairs(4, 2, 3, 1)}, api.OK},
		{pairs("Length", 1), sample.Dict("Length", value.Int(1)), api.OK},
		{pairs("A", null), sample.Dict(""), api.OK},
		{pairs("A"), none, api.ErrArg},
		{pairs("A", 1, 2), none, api.ErrArg},
		{pairs(1, 1), none, api.ErrArg},
		{pairs(value.String("A"), 1), none, api.ErrArg},
		{pairs("A", 1, "A", 2, 3, 4), none, api.ErrArg},
		{pairs("A", 1, "A", 2, "B"), none, api.ErrArg},
		{pairs("A", 1, "B", 2, "A", 1), none, api.ErrTwice},
		{pairs("A", null, "B", 2, "A", null), none, api.ErrTwice},
		{pairs("A", 1, "A", null), none, api.ErrTwice},
		{pairs("A", api.Object{Kind: 10}, "A", null), none, api.ErrTwice},
		{pairs("A\x00", 1), none, api.ErrForm},
		{pairs("A\x00", null), sample.Dict(""), api.OK},
		{pairs(strings.Repeat("k", api.MaxName+1), 1), none, api.ErrForm},
		{pairs("A", api.Object{Kind: 10}), none, api.ErrKind},
		{pairs("B", api.Object{Kind: 10}, "A", value.Bool(true), "C", value.Ref(0, 0)), none, api.ErrKind},
		{pairs("A", api.Object{Kind: api.KStream}), none, api.ErrKind},
		{pairs("A", sample.Array(null)), sample.Dict("A", sample.Array(null)), api.OK},
		{pairs("A", sample.Nest(value.Int(1), api.MaxDepth-2)), sample.Dict("A", sample.Nest(value.Int(1), api.MaxDepth-2)), api.OK},
		{pairs("A", sample.Nest(value.Int(1), api.MaxDepth-1)), none, api.ErrDeep},
	} {
		got, e := value.Dict(c.pairs...)
		checkObject(t, "Dict "+strconv.Itoa(i), got, e, c.want, c.err)
	}
}

// Promise 5.2.
func TestDictLimits(t *testing.T) {
	broad := sample.Broad(api.MaxKids + 1)
	var list []api.Object
	for i, key := range broad.Keys {
		list = append(list, value.Name(key), broad.Kids[i])
	}
	got, e := value.Dict(list...)
	checkObject(t, "Dict of too many", got, e, api.Object{}, api.ErrMany)
	got, e = value.Dict(list[2:]...)
	checkObject(t, "Dict of all but the first", got, e, value.Drop(api.Object{Kind: api.KDict, Keys: broad.Keys[1:], Kids: broad.Kids[1:]}, ""), api.OK)
	list[5] = value.Null()
	got, e = value.Dict(list...)
	if e != api.OK || len(got.Keys) != api.MaxKids || slices.Contains(got.Keys, broad.Keys[2]) {
		t.Errorf("Dict of all but a null = %d keys, %d", len(got.Keys), e)
	}
	v := sample.Nest(value.Int(1), 4)
	got, _ = value.Dict(value.Name("A"), v)
	spoil(v)
	checkObject(t, "Dict", got, api.OK, sample.Dict("A", sample.Nest(value.Int(1), 4)), api.OK)
}

// Promise 5.2.
func TestStream(t *testing.T) {
	none, long := api.Object{}, strings.Repeat("d", api.MaxData)
	inner := sample.Dict("Length", value.Int(1))
	for i, c := range []struct {
		dict api.Object
		data string
		want api.Object
		err  api.Errno
	}{
		{sample.Dict(""), "", api.Object{Kind: api.KStream}, api.OK},
		{sample.Dict("A Length Z", value.Int(1), inner, inner), "x", api.Object{Kind: api.KStream, Keys: []string{"A", "Z"}, Kids: []api.Object{value.Int(1), inner}, S: "x"}, api.OK},
		{sample.Dict("Length", value.Name("x")), sample.Bytes(), api.Object{Kind: api.KStream, S: sample.Bytes()}, api.OK},
		{sample.Dict(""), long, api.Object{Kind: api.KStream, S: long}, api.OK},
		{sample.Dict(""), long + "d", none, api.ErrLong},
		{sample.Array(), long + "d", none, api.ErrKind},
		{value.Null(), "", none, api.ErrKind},
		{api.Object{Kind: api.KStream}, "", none, api.ErrKind},
		{api.Object{Kind: api.KArray, N: 1}, "", none, api.ErrKind},
		{api.Object{Kind: api.KDict, Kids: []api.Object{{}}}, long + "d", none, api.ErrForm},
		{sample.Dict("A", value.Bool(true), value.Int(1)), "", none, api.ErrForm},
		{sample.Dict("Length", value.Ref(0, 0)), "", none, api.ErrRange},
		{api.Object{Kind: api.KDict, N: 1}, "", none, api.ErrKind},
	} {
		got, e := value.Stream(c.dict, c.data)
		checkObject(t, "Stream "+strconv.Itoa(i), got, e, c.want, c.err)
	}
	dict := sample.Dict("A Length", sample.Nest(value.Int(1), 5), value.Int(1))
	got, _ := value.Stream(dict, "x")
	checkObject(t, "the argument of Stream", dict, 0, sample.Dict("A Length", sample.Nest(value.Int(1), 5), value.Int(1)), 0)
	spoil(dict)
	checkObject(t, "Stream", got, 0, api.Object{Kind: api.KStream, Keys: []string{"A"}, Kids: []api.Object{sample.Nest(value.Int(1), 5)}, S: "x"}, 0)
}

// Promise 5.3.
func TestGet(t *testing.T) {
	twice := api.Object{Kind: api.KDict, Keys: []string{"B", "A", "B", "C"}, Kids: pairs(1, 2, 3)}
	for i, c := range []struct {
		o    api.Object
		key  string
		want api.Object
		ok   bool
	}{
		{twice, "A", value.Int(2), true},
		{twice, "B", value.Int(1), true},
		{twice, "C", value.Null(), false},
		{twice, "", value.Null(), false},
		{twice, "a", value.Null(), false},
		{api.Object{Kind: api.KStream, Keys: []string{"Length"}, Kids: pairs(9)}, "Length", value.Int(9), true},
		{api.Object{Kind: api.KStream, Keys: []string{"", "A"}, Kids: pairs(value.Null())}, "", value.Null(), true},
		{api.Object{Kind: api.KArray, Keys: []string{"A"}, Kids: pairs(9)}, "A", value.Null(), false},
		{api.Object{Keys: []string{"A"}, Kids: pairs(9)}, "A", value.Null(), false},
		{api.Object{Kind: 99, Keys: []string{"A"}, Kids: pairs(9)}, "A", value.Null(), false},
		{sample.Dict(""), "A", value.Null(), false},
	} {
		got, ok := value.Get(c.o, c.key)
		if ok != c.ok || !value.Same(got, c.want) {
			t.Errorf("Get %d = %v, %t", i, got, ok)
		}
	}
	o := sample.Dict("A", sample.Nest(value.Int(1), 5))
	got, _ := value.Get(o, "A")
	spoil(o)
	checkObject(t, "Get", got, 0, sample.Nest(value.Int(1), 5), 0)
}

// Promise 5.3.
func TestDrop(t *testing.T) {
	three := sample.Dict("A B C", value.Int(1), value.Int(2), value.Int(3))
	stream := three
	stream.Kind, stream.S = api.KStream, "x"
	left := api.Object{Kind: api.KStream, Keys: []string{"A", "C"}, Kids: pairs(1, 3), S: "x"}
	wrong := sample.Dict("A B", value.Int(1), value.Bool(true))
	wrong.Kids[1].N = 7
	for i, c := range []struct {
		o    api.Object
		key  string
		want api.Object
	}{
		{three, "B", sample.Dict("A C", value.Int(1), value.Int(3))},
		{three, "A", sample.Dict("B C", value.Int(2), value.Int(3))},
		{three, "C", sample.Dict("A B", value.Int(1), value.Int(2))},
		{three, "D", three},
		{three, "", three},
		{stream, "B", left},
		{sample.Dict("A", value.Int(1)), "A", sample.Dict("")},
		{wrong, "A", wrong},
		{wrong, "B", wrong},
		{api.Object{Kind: api.KArray, Keys: []string{"A"}, Kids: pairs(9)}, "A", api.Object{Kind: api.KArray, Keys: []string{"A"}, Kids: pairs(9)}},
		{api.Object{Kind: 99, Keys: []string{"A"}, Kids: pairs(9)}, "A", api.Object{Kind: 99, Keys: []string{"A"}, Kids: pairs(9)}},
		{value.Int(5), "A", value.Int(5)},
		{sample.Array(three), "A", sample.Array(three)},
	} {
		before := value.Clone(c.o)
		got := value.Drop(c.o, c.key)
		checkObject(t, "Drop "+strconv.Itoa(i), got, 0, c.want, 0)
		checkObject(t, "the argument of Drop "+strconv.Itoa(i), c.o, 0, before, 0)
		spoil(got)
		checkObject(t, "the argument of Drop "+strconv.Itoa(i), c.o, 0, before, 0)
	}
}

// Promise 5.3.
func TestSet(t *testing.T) {
	two := sample.Dict("B D", value.Int(1), value.Int(2))
	stream := two
	stream.Kind, stream.S = api.KStream, "x"
	none, one := api.Object{}, value.Int(9)
	wrong := sample.Dict("A", value.Ref(0, 0))
	for i, c := range []struct {
		o    api.Object
		key  string
		v    api.Object
		want api.Object
		err  api.Errno
	}{
		{two, "A", one, sample.Dict("A B D", one, value.Int(1), value.Int(2)), api.OK},
		{two, "B", one, sample.Dict("B D", one, value.Int(2)), api.OK},
		{two, "C", one, sample.Dict("B C D", value.Int(1), one, value.Int(2)), api.OK},
		{two, "D", one, sample.Dict("B D", value.Int(1), one), api.OK},
		{two, "E", one, sample.Dict("B D E", value.Int(1), value.Int(2), one), api.OK},
		{two, "B", value.Null(), sample.Dict("D", value.Int(2)), api.OK},
		{two, "X", value.Null(), two, api.OK},
		{two, "X\x00", value.Null(), two, api.OK},
		{two, "Length", one, sample.Dict("B D Length", value.Int(1), value.Int(2), one), api.OK},
		{stream, "C", one, api.Object{Kind: api.KStream, Keys: []string{"B", "C", "D"}, Kids: pairs(1, 9, 2), S: "x"}, api.OK},
		{stream, "Length", one, none, api.ErrForm},
		{stream, "Length", value.Null(), stream, api.OK},
		{stream, "D", value.Null(), api.Object{Kind: api.KStream, Keys: []string{"B"}, Kids: pairs(1), S: "x"}, api.OK},
		{two, "X\x00", one, none, api.ErrForm},
		{two, strings.Repeat("k", api.MaxName+1), one, none, api.ErrForm},
		{two, strings.Repeat("k", api.MaxName+1), api.Object{Kind: 10}, none, api.ErrForm},
		{two, "C", api.Object{Kind: 10}, none, api.ErrKind},
		{two, "C", value.Ref(1, -1), none, api.ErrRange},
		{two, "C", api.Object{Kind: api.KStream}, none, api.ErrKind},
		{two, "C", sample.Nest(one, api.MaxDepth-2), sample.Dict("B C D", value.Int(1), sample.Nest(one, api.MaxDepth-2), value.Int(2)), api.OK},
		{two, "C", sample.Nest(one, api.MaxDepth-1), none, api.ErrDeep},
		{wrong, "A", one, none, api.ErrRange},
		{wrong, "A", value.Null(), none, api.ErrRange},
		{sample.Array(), "A", one, none, api.ErrKind},
		{sample.Array(), "A", value.Null(), none, api.ErrKind},
		{api.Object{Kind: 99}, "A", value.Null(), none, api.ErrKind},
		{value.Ref(0, 0), "A", one, none, api.ErrKind},
		{sample.Broad(api.MaxKids), "A", one, none, api.ErrMany},
		{sample.Broad(api.MaxKids), "A", value.Null(), sample.Broad(api.MaxKids), api.OK},
	} {
		before := value.Clone(c.o)
		got, e := value.Set(c.o, c.key, c.v)
		checkObject(t, "Set "+strconv.Itoa(i), got, e, c.want, c.err)
		spoil(got)
		checkObject(t, "the argument of Set "+strconv.Itoa(i), c.o, 0, before, 0)
	}
	broad := sample.Broad(api.MaxKids)
	got, e := value.Set(broad, broad.Keys[5], one)
	if v, _ := value.Get(got, broad.Keys[5]); e != api.OK || len(got.Keys) != api.MaxKids || v.N != 9 {
		t.Errorf("Set in a full dictionary = %d keys, %d", len(got.Keys), e)
	}
}

// Promise 5.5.
func TestSetGetDrop(t *testing.T) {
	values := sample.Leaves()
	for i, o := range append(sample.Objects(), sample.Streams()...) {
		if o.Kind != api.KDict && o.Kind != api.KStream || len(o.Keys) >= api.MaxKids {
			continue
		}
		for k, key := range append([]string{"", "K", "zz"}, o.Keys...) {
			v := values[1+(i+k)%(len(values)-1)]
			set, e := value.Set(o, key, v)
			got, ok := value.Get(set, key)
			if e != api.OK || !ok || !value.Same(got, v) || value.Check(set) != api.OK {
				t.Errorf("object %d, key %q: Get = %v, %t after Set", i, key, got, ok)
			}
			for _, other := range slices.Concat(o.Keys, set.Keys) {
				a, okA := value.Get(o, other)
				b, okB := value.Get(set, other)
				if other != key && (okA != okB || !value.Same(a, b)) {
					t.Errorf("object %d: Set of %q changes %q", i, key, other)
				}
			}
			dropped := value.Drop(set, key)
			if _, ok := value.Get(dropped, key); ok || !value.Same(dropped, value.Drop(o, key)) {
				t.Errorf("object %d: Drop of %q leaves something", i, key)
			}
		}
	}
}

// Promise 5.4.
func TestRefs(t *testing.T) {
	ref := value.Ref
	for i, c := range []struct {
		o    api.Object
		want []int
	}{
		{value.Null(), nil},
		{value.Int(5), nil},
		{ref(5, 7), []int{5}},
		{ref(0, 0), nil},
		{ref(-1, 0), nil},
		{ref(1, -4), []int{1}},
		{ref(api.MaxNum, 0), []int{api.MaxNum}},
		{ref(api.MaxNum+1, 0), nil},
		{api.Object{Kind: api.KRef, N: 1 << 32}, nil},
		{api.Object{Kind: api.KRef, N: 1<<32 + 1}, nil},
		{sample.Array(ref(9, 0), sample.Dict("A B", ref(3, 1), sample.Array(ref(9, 2), ref(100, 0))), ref(0, 0), value.Int(4)), []int{3, 9, 100}},
		{api.Object{Kind: api.KStream, Keys: []string{"A"}, Kids: []api.Object{ref(2, 0)}, S: "3 0 R"}, []int{2}},
		{api.Object{Kind: api.KInt, N: 8, Kids: []api.Object{ref(7, 0)}}, []int{7}},
		{sample.Nest(ref(6, 0), 500), []int{6}},
	} {
		if got := value.Refs(c.o); !slices.Equal(got, c.want) {
			t.Errorf("Refs %d = %v, want %v", i, got, c.want)
		}
	}
}

// Promise 5.4.
func TestSwap(t *testing.T) {
	ref := value.Ref
	many := sample.Array(ref(1, 5), ref(2, 5), sample.Dict("A", ref(3, 5)), value.Int(1), value.Null())
	for i, c := range []struct {
		o        api.Object
		from, to []int
		want     api.Object
	}{
		{many, nil, nil, many},
		{many, []int{1, 2, 3}, nil, many},
		{many, []int{1, 3}, []int{7, 8}, sample.Array(ref(7, 0), ref(2, 5), sample.Dict("A", ref(8, 0)), value.Int(1), value.Null())},
		{many, []int{1, 2}, []int{2, 1}, sample.Array(ref(2, 0), ref(1, 0), sample.Dict("A", ref(3, 5)), value.Int(1), value.Null())},
		{many, []int{1, 1, 2, 2}, []int{9, 8, 7, 6}, sample.Array(ref(9, 0), ref(7, 0), sample.Dict("A", ref(3, 5)), value.Int(1), value.Null())},
		{many, []int{1, 2, 1}, []int{4}, sample.Array(ref(4, 0), ref(2, 5), sample.Dict("A", ref(3, 5)), value.Int(1), value.Null())},
		{many, []int{3}, []int{3}, sample.Array(ref(1, 5), ref(2, 5), sample.Dict("A", ref(3, 0)), value.Int(1), value.Null())},
		{many, []int{2}, []int{-5, 1, 2, 3}, sample.Array(ref(1, 5), ref(-5, 0), sample.Dict("A", ref(3, 5)), value.Int(1), value.Null())},
		{ref(0, 9), []int{0}, []int{math.MaxInt}, ref(math.MaxInt, 0)},
		{value.Int(3), []int{3}, []int{4}, value.Int(3)},
		{api.Object{Kind: api.KStream, Keys: []string{"A"}, Kids: []api.Object{ref(2, 3)}, S: "2 3 R"}, []int{2}, []int{1}, api.Object{Kind: api.KStream, Keys: []string{"A"}, Kids: []api.Object{ref(1, 0)}, S: "2 3 R"}},
	} {
		before := value.Clone(c.o)
		got := value.Swap(c.o, c.from, c.to)
		checkObject(t, "Swap "+strconv.Itoa(i), got, 0, c.want, 0)
		spoil(got)
		checkObject(t, "the argument of Swap "+strconv.Itoa(i), c.o, 0, before, 0)
	}
}

// Promise 5.5.
func TestSwapBack(t *testing.T) {
	from := []int{1, 2, 7, api.MaxNum}
	to := []int{api.MaxNum - 1, 5, 9, 4000}
	for i, o := range append(sample.Objects(), sample.Streams()...) {
		back := value.Swap(value.Swap(o, from, to), to, from)
		// Swapping numbers to themselves removes the generations alone.
		if !value.Same(back, value.Swap(o, from, from)) {
			t.Errorf("object %d is not restored", i)
		}
	}
}

// Promise 5.4.
func TestNumber(t *testing.T) {
	const most = api.MaxFix / api.One
	for i, c := range []struct {
		o    api.Object
		want int64
		ok   bool
	}{
		{value.Int(0), 0, true}, {value.Int(3), 30000, true}, {value.Int(-7), -70000, true},
		{value.Int(most), most * api.One, true}, {value.Int(-most), -most * api.One, true},
		{value.Int(most + 1), 0, false}, {value.Int(-most - 1), 0, false},
		{value.Int(math.MaxInt64), 0, false}, {value.Int(math.MinInt64), 0, false},
		{value.Int(1 << 60), 0, false}, {value.Int(math.MaxInt64/api.One + 1), 0, false},
		{value.Real(5), 5, true}, {value.Real(-5), -5, true},
		{value.Real(api.MaxFix), api.MaxFix, true}, {value.Real(-api.MaxFix), -api.MaxFix, true},
		{value.Real(api.MaxFix + 1), 0, false}, {value.Real(-api.MaxFix - 1), 0, false}, {value.Real(math.MinInt64), 0, false},
		{value.Null(), 0, false}, {value.Bool(true), 0, false}, {value.Ref(3, 0), 0, false}, {value.String("3"), 0, false},
		{api.Object{Kind: api.KArray, N: 3}, 0, false}, {api.Object{Kind: 99, N: 3}, 0, false},
	} {
		if got, ok := value.Number(c.o); got != c.want || ok != c.ok {
			t.Errorf("Number %d = %d, %t", i, got, ok)
		}
	}
}
