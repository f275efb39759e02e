package web_test

import (
	"math"
	"slices"
	"testing"

	"foliant/api"
	"foliant/docs"
	"foliant/sample"
	"foliant/value"
	"foliant/web"
)

// ref returns a reference of generation 0.
func ref(num int) api.Object { return sample.Ref(num, 0) }

// visited returns the numbers of the items that are visited from o, at most so many.
func visited(d api.Doc, o api.Object, most int) []int {
	var list []int
	for i := range web.Of(d).Visits(o) {
		if list = append(list, i.Num); len(list) == most {
			break
		}
	}
	return list
}

func TestVisits(t *testing.T) {
	d := sample.Doc(5,
		api.Item{Num: 1, Obj: value.Array(ref(7), ref(2))},
		api.Item{Num: 2, Obj: value.Int(7)},
		api.Item{Num: 3, Gen: 1, Obj: value.Array(ref(2), ref(7))},
		api.Item{Num: 5, Obj: sample.Dict("A B C", value.Array(sample.Ref(3, 0), ref(1)), sample.Ref(3, 1), ref(4))},
		api.Item{Num: 7, Obj: value.Array(ref(5), sample.Dict("A", ref(8)), ref(9))},
		api.Item{Num: 8, Obj: api.Object{Kind: api.KStream, Keys: []string{"A"}, Kids: []api.Object{sample.Ref(3, 1)}}})
	for _, c := range []struct {
		o    api.Object
		want []int
	}{
		{ref(5), []int{5, 1, 7, 8, 3, 2}},
		{ref(1), []int{1, 7, 5, 3, 2, 8}},
		{value.Array(ref(8), ref(2), ref(5)), []int{8, 3, 2, 7, 5, 1}},
		{value.Array(ref(4), sample.Ref(8, 1), ref(6), ref(api.MaxNum), ref(3)), nil},
		{value.Null(), nil},
	} {
		for most := range len(c.want) + 1 {
			want := c.want
			if most > 0 {
				want = want[:most]
			}
			if got := visited(d, c.o, most); !slices.Equal(got, want) {
				t.Errorf("from %v: %v, want %v", c.o, got, want)
			}
		}
	}
	visits := web.Of(d).Visits(ref(5))
	for range 2 {
		n := 0
		for range visits {
			n++
		}
		if n != 6 {
			t.Errorf("%d visits", n)
		}
	}
}

func TestItem(t *testing.T) {
	d := sample.Doc(2, api.Item{Num: 2, Obj: sample.Dict("")}, api.Item{Num: 4, Gen: api.MaxGen, Obj: value.Int(7)})
	w := web.Of(d)
	for _, c := range []struct {
		num, gen int
		ok       bool
	}{{1, 0, false}, {2, 0, true}, {2, 1, false}, {3, 0, false}, {4, 0, false}, {4, api.MaxGen, true}, {5, 0, false}, {api.MaxNum, 0, false}} {
		i, ok := w.Item(sample.Ref(c.num, c.gen))
		if ok != c.ok || ok && (i.Num != c.num || i.Gen != c.gen) || !ok && i.Num != 0 {
			t.Errorf("%d %d R refers to %v, %v", c.num, c.gen, i, ok)
		}
	}
	if _, ok := web.Of(api.Doc{}).Item(ref(1)); ok {
		t.Error("there is an item in no document")
	}
}

func TestRefs(t *testing.T) {
	o := value.Array(ref(3), sample.Dict("A B", value.Array(ref(1), value.Int(4)), ref(3)), value.Null(), ref(2))
	for most := range 5 {
		var got []int64
		for r := range web.Refs(o) {
			if got = append(got, r.N); len(got) == most {
				break
			}
		}
		want := []int64{3, 1, 3, 2}
		if most > 0 {
			want = want[:most]
		}
		if !slices.Equal(got, want) {
			t.Errorf("%v, want %v", got, want)
		}
	}
	for r := range web.Refs(sample.Ref(5, 6)) {
		if r.N != 5 || r.G != 6 {
			t.Errorf("a reference holds %v", r)
		}
	}
}

func TestNum(t *testing.T) {
	d := sample.Doc(2, api.Item{Num: 2, Obj: sample.Dict("")}, api.Item{Num: 4, Gen: 7, Obj: value.Int(7)})
	w := web.Of(d)
	for num, ok := range map[int]bool{-1: false, 0: false, 1: false, 2: true, 3: false, 4: true, 5: false, api.MaxNum: false, math.MaxInt: false, math.MinInt: false} {
		i, got := w.Num(num)
		if got != ok || ok && i.Num != num || !ok && (i.Num != 0 || i.Obj.Kind != 0) {
			t.Errorf("item %d is %v, %v", num, i, got)
		}
	}
}

func TestDict(t *testing.T) {
	d := sample.Doc(2, api.Item{Num: 2, Obj: sample.Dict("A", ref(2))}, api.Item{Num: 4, Gen: 7, Obj: sample.Dict("")}, api.Item{Num: 5, Obj: api.Object{Kind: api.KStream}}, api.Item{Num: 6, Obj: value.Array(ref(2))})
	w := web.Of(d)
	for n, c := range []struct {
		o    api.Object
		want int
	}{
		{ref(2), 2}, {sample.Ref(4, 7), 4}, {ref(4), 0}, {ref(5), 0}, {ref(6), 0}, {ref(3), 0}, {ref(9), 0}, {sample.Dict("A", ref(2)), 0}, {value.Int(2), 0}, {value.Int(-2), 0}, {value.Null(), 0}, {value.Array(ref(2)), 0},
	} {
		if i, ok := w.Dict(c.o); ok != (c.want > 0) || i.Num != c.want || !ok && i.Obj.Kind != 0 {
			t.Errorf("Dict %d is %v, %v", n, i, ok)
		}
	}
}

func TestFollowAndPath(t *testing.T) {
	stream := api.Object{Kind: api.KStream, Keys: []string{"A"}, Kids: []api.Object{ref(2)}}
	for n, d := range append(sample.Webs(), sample.Doc(1, api.Item{Num: 1, Obj: sample.Dict("A B", ref(2), value.Int(7))}, api.Item{Num: 2, Obj: sample.Dict("A B", ref(1), stream.Kids[0])}, api.Item{Num: 3, Obj: stream})) {
		w := web.Of(d)
		for num := range 20 {
			for _, o := range []api.Object{sample.Ref(1+num, n%2), value.Array(ref(1)), sample.Dict("A C", ref(1+num), value.Int(7)), value.Null(), value.Name("A")} {
				if got, want := w.Follow(o), docs.Follow(d, o); !value.Same(got, want) {
					t.Errorf("%v is followed to %v, not %v", o, got, want)
				}
				for _, keys := range [][]string{nil, {"A"}, {"B"}, {"C"}, {""}, {"A", "B"}, {"A", "A", "B"}, {"C", "A"}} {
					if got, want := w.Path(o, keys...), docs.Path(d, o, keys...); !value.Same(got, want) {
						t.Errorf("%v leads from %v to %v, not %v", keys, o, got, want)
					}
				}
			}
		}
	}
}

func TestGet(t *testing.T) {
	o := sample.Dict("A B", value.Array(ref(1)), ref(2))
	for key, want := range map[string]api.Object{"A": value.Array(ref(1)), "B": ref(2), "": value.Null(), "AA": value.Null(), "C": value.Null()} {
		if v, ok := web.Get(o, key); !value.Same(v, want) || ok != (want.Kind != api.KNull) {
			t.Errorf("Get of %q is %v, %v", key, v, ok)
		}
	}
	for _, o := range []api.Object{value.Null(), value.Name("A"), value.Array(value.Name("A")), ref(1)} {
		if v, ok := web.Get(o, "A"); ok || v.Kind != 0 {
			t.Errorf("Get in %v is %v, %v", o, v, ok)
		}
	}
}
