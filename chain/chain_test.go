package chain_test

import (
	"fmt"
	"math"
	"slices"
	"testing"

	"foliant/api"
	"foliant/chain"
	"foliant/docs"
	"foliant/sample"
	"foliant/table"
	"foliant/value"
)

// slotsOf returns a plain slot of each number, at an offset that tells which list it is of.
func slotsOf(list int, nums ...int) []api.Slot {
	var l []api.Slot
	for i, num := range nums {
		l = append(l, api.Slot{Num: num, Kind: api.SlotPlain, A: 1000*list + i})
	}
	return l
}

// merged returns what Merge does, found in another way.
func merged(l []api.Section) []api.Slot {
	var all []api.Slot
	for _, x := range l {
		all = append(all, x.Slots...)
	}
	slices.SortStableFunc(all, func(a, b api.Slot) int { return a.Num - b.Num })
	return slices.CompactFunc(all, func(a, b api.Slot) bool { return a.Num == b.Num })
}

// Promise 22.3.
func TestMerge(t *testing.T) {
	plain := func(num, at int) api.Slot { return api.Slot{Num: num, Kind: api.SlotPlain, A: at} }
	free := func(num int) api.Slot { return api.Slot{Num: num, Kind: api.SlotFree, B: 1} }
	for i, c := range []struct {
		lists [][]api.Slot
		want  []api.Slot
	}{
		{nil, nil},
		{[][]api.Slot{nil, {}}, nil},
		{[][]api.Slot{{plain(1, 10), free(2)}, {plain(2, 30), plain(3, 40)}}, []api.Slot{plain(1, 10), free(2), plain(3, 40)}},
		{[][]api.Slot{{plain(2, 30), plain(3, 40)}, {plain(1, 10), free(2)}}, []api.Slot{plain(1, 10), plain(2, 30), plain(3, 40)}},
		{[][]api.Slot{{plain(9, 1), plain(2, 5), plain(9, 2)}, {plain(0, 4)}}, []api.Slot{plain(0, 4), plain(2, 5), plain(9, 1)}},
		{[][]api.Slot{{}, {free(5), plain(5, 1)}, {plain(5, 2)}}, []api.Slot{free(5)}},
		{[][]api.Slot{{plain(7, 1)}, {{Num: 7, Kind: api.SlotPacked, A: 2}}, {{Num: 8, Kind: api.SlotPacked, A: 2, B: 3}}, {plain(8, 1)}}, []api.Slot{plain(7, 1), {Num: 8, Kind: api.SlotPacked, A: 2, B: 3}}},
		{[][]api.Slot{{{Num: math.MaxInt, Kind: 99, A: -1, B: -1}}, {{Num: math.MinInt}, {Num: -1}}}, []api.Slot{{Num: math.MinInt}, {Num: -1}, {Num: math.MaxInt, Kind: 99, A: -1, B: -1}}},
	} {
		var l []api.Section
		for _, slots := range c.lists {
			l = append(l, api.Section{Slots: slots})
		}
		if got := chain.Merge(l); !slices.Equal(got, c.want) {
			t.Errorf("Merge %d = %v, want %v", i, got, c.want)
		}
	}
}

// Promises 22.3 and 22.4.
func TestMergeInSteps(t *testing.T) {
	for n := range 200 {
		var l []api.Section
		for list := range n % 7 {
			var nums []int
			for i := range (n * (list + 3)) % 11 {
				nums = append(nums, (n*31+list*17+i*i*5)%13)
			}
			l = append(l, api.Section{Slots: slotsOf(list, nums...)})
		}
		want := merged(l)
		if got := chain.Merge(l); !slices.Equal(got, want) {
			t.Errorf("Merge(%v) = %v, want %v", l, got, want)
		}
		for k := range len(l) + 1 {
			first := api.Section{Slots: chain.Merge(l[:k])}
			if got := chain.Merge(append([]api.Section{first}, l[k:]...)); !slices.Equal(got, want) {
				t.Errorf("Merge(%v), the first %d before the rest, = %v, want %v", l, k, got, want)
			}
		}
	}
	full := []api.Section{{Slots: slotsOf(1, 1, 2)}, {}}
	for num := range api.MaxNum + 1 {
		full[1].Slots = append(full[1].Slots, slotsOf(2, api.MaxNum-num)...)
	}
	if got := chain.Merge(full); len(got) != api.MaxNum+1 || table.Check(got) != api.OK || got[1].A != 1000 || got[3].A != 2000 {
		t.Errorf("Merge of all numbers has %d of them", len(got))
	}
}

// Promise 22.3.
func TestTrailer(t *testing.T) {
	empty := sample.Dict("")
	whole := sample.Dict("ID Info Root", value.Array(value.String("a")), value.Ref(3, 0), value.Ref(1, 0))
	root := sample.Dict("Root", value.Ref(2, 0))
	stream := sample.Dict("A Root Type", value.Int(1), value.Ref(2, 0), value.Name("XRef"))
	stream.Kind, stream.S = api.KStream, "x"
	for i, c := range []struct {
		trailers []api.Object
		want     api.Object
	}{
		{nil, empty},
		{[]api.Object{whole, root}, whole},
		{[]api.Object{sample.Dict("Info Prev Root Size", value.Ref(3, 0), value.Int(1), value.Ref(2, 0), value.Int(9)), whole}, sample.Dict("Info Root", value.Ref(3, 0), value.Ref(2, 0))},
		{[]api.Object{empty, whole}, empty},
		{[]api.Object{{}, whole}, empty},
		{[]api.Object{value.Ref(1, 0), whole}, empty},
		{[]api.Object{sample.Dict("Root", value.Ref(0, 0)), whole}, empty},
		{[]api.Object{stream, whole}, root},
	} {
		var l []api.Section
		for _, o := range c.trailers {
			l = append(l, api.Section{Trailer: o})
		}
		if got := chain.Trailer(l); !value.Same(got, c.want) {
			t.Errorf("Trailer %d = %v, want %v", i, got, c.want)
		}
		if len(l) > 0 && !value.Same(chain.Trailer(l), docs.Trailer(l[0].Trailer)) {
			t.Errorf("Trailer %d is not that of package docs", i)
		}
	}
	l := []api.Section{{Trailer: value.Clone(whole)}}
	got := chain.Trailer(l)
	got.Kids[0].Kids[0].S = "b"
	if !value.Same(l[0].Trailer, whole) {
		t.Error("Trailer shares memory with its argument")
	}
}

// Promise 22.3.
func TestFind(t *testing.T) {
	l := []api.Slot{{Num: 5, Kind: api.SlotFree, A: 1}, {Num: 2, Kind: api.SlotPlain, A: 2}, {Num: 5, Kind: api.SlotPlain, A: 3}, {}, {Num: -1, Kind: api.SlotPacked, A: 9, B: 9}}
	for _, c := range []struct {
		num  int
		want api.Slot
		ok   bool
	}{
		{5, l[0], true}, {2, l[1], true}, {0, l[3], true}, {-1, l[4], true},
		{1, api.Slot{}, false}, {3, api.Slot{}, false}, {6, api.Slot{}, false}, {math.MaxInt, api.Slot{}, false}, {math.MinInt, api.Slot{}, false},
	} {
		if got, ok := chain.Find(l, c.num); got != c.want || ok != c.ok {
			t.Errorf("Find(%d) = %v, %t, want %v, %t", c.num, got, ok, c.want, c.ok)
		}
	}
	if got, ok := chain.Find(nil, 0); got != (api.Slot{}) || ok {
		t.Errorf("Find in nothing = %v, %t", got, ok)
	}
}

// brief shows the beginning of anything.
func brief(x any) string { return fmt.Sprintf("%.300s", fmt.Sprintf("%q", fmt.Sprint(x))) }
