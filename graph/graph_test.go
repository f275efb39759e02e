package graph_test

import (
	"fmt"
	"math"
	"slices"
	"testing"
	"time"

	"foliant/api"
	"foliant/docs"
	"foliant/graph"
	"foliant/sample"
	"foliant/value"
)

// brief shows the beginning of anything.
func brief(x any) string { return fmt.Sprintf("%.400s", fmt.Sprintf("%q", fmt.Sprint(x))) }

// item returns an item of generation 0.
func item(num int, o api.Object) api.Item { return api.Item{Num: num, Obj: o} }

// ref returns a reference of generation 0.
func ref(num int) api.Object { return sample.Ref(num, 0) }

// is checks a list of numbers.
func is(t *testing.T, what string, got []int, want ...int) {
	t.Helper()
	if !slices.Equal(got, want) {
		t.Errorf("%s = %s, want %s", what, brief(got), brief(want))
	}
}

// clone returns an equal document that shares no memory with d.
func clone(d api.Doc) api.Doc {
	d.Trailer = value.Clone(d.Trailer)
	d.Items = slices.Clone(d.Items)
	for i := range d.Items {
		d.Items[i].Obj = value.Clone(d.Items[i].Obj)
	}
	return d
}

// Promises 29.1 and 29.2, by the example of the chapter.
func TestExample(t *testing.T) {
	d := sample.Doc(1, item(1, sample.Dict("A B", ref(2), ref(9))), item(2, value.Null()), item(3, value.Array(ref(2))))
	is(t, "Reach", graph.Reach(d), 1, 2)
	is(t, "Lost", graph.Lost(d), 3)
	is(t, "Dangling", graph.Dangling(d), 9)
	is(t, "Users of 2", graph.Users(d, 2), 1, 3)
	is(t, "Users of 1", graph.Users(d, 1), 0)
	is(t, "Users of 3", graph.Users(d, 3))
}

// Promises 29.1 and 29.2: a reference refers to an item of its generation only.
func TestGenerations(t *testing.T) {
	d := sample.Doc(1,
		item(1, sample.Dict("A B C D", sample.Ref(2, 0), sample.Ref(3, 4), sample.Ref(4, 5), sample.Ref(1, 1))),
		api.Item{Num: 2, Gen: 1, Obj: value.Array(sample.Ref(2, 1))},
		api.Item{Num: 3, Gen: 4, Obj: value.Array(sample.Ref(2, 2))},
		api.Item{Num: 4, Gen: api.MaxGen, Obj: value.Array(sample.Ref(4, api.MaxGen), sample.Ref(3, 0))})
	is(t, "Reach", graph.Reach(d), 1, 3)
	is(t, "Lost", graph.Lost(d), 2, 4)
	is(t, "Dangling", graph.Dangling(d), 1, 2, 3, 4)
	is(t, "Users of 1", graph.Users(d, 1), 0)
	is(t, "Users of 2", graph.Users(d, 2), 2)
	is(t, "Users of 3", graph.Users(d, 3), 1)
	is(t, "Users of 4", graph.Users(d, 4), 4)
	is(t, "From 2 0", graph.From(d, sample.Ref(2, 0)))
	is(t, "From 2 1", graph.From(d, sample.Ref(2, 1)), 2)
	is(t, "From 4", graph.From(d, sample.Ref(4, api.MaxGen)), 4)
}

// Promises 29.1 and 29.2: references count wherever they stand, and nothing else does.
func TestPlaces(t *testing.T) {
	stream := api.Object{Kind: api.KStream, Keys: []string{"A"}, Kids: []api.Object{ref(4)}, S: "8 0 R"}
	d := sample.Doc(1,
		item(1, sample.Dict("A B", value.Int(8), sample.Nest(ref(3), api.MaxDepth-2))),
		item(3, stream), item(4, value.Array(value.Array(), value.Array(ref(20), ref(4), ref(1)))),
		item(5, value.String("8 0 R")), item(6, value.Array(ref(api.MaxNum))), item(7, value.Null()), item(8, value.Int(7)))
	d.Trailer = sample.Dict("ID Info Root", value.Array(ref(5), value.Array(ref(77), ref(5))), ref(6), ref(1))
	is(t, "Reach", graph.Reach(d), 1, 3, 4, 5, 6)
	is(t, "Lost", graph.Lost(d), 7, 8)
	is(t, "Dangling", graph.Dangling(d), 20, 77, api.MaxNum)
	is(t, "Users of 5", graph.Users(d, 5), 0)
	is(t, "Users of 4", graph.Users(d, 4), 3, 4)
	is(t, "Users of 1", graph.Users(d, 1), 0, 4)
	is(t, "From a stream", graph.From(d, stream), 1, 3, 4)
	is(t, "From a reference", graph.From(d, ref(8)), 8)
	is(t, "From a dangling reference", graph.From(d, ref(9)))
	is(t, "From the greatest reference", graph.From(d, sample.Ref(api.MaxNum, api.MaxGen)))
	is(t, "From the least reference", graph.From(d, ref(1)), 1, 3, 4)
	is(t, "From an integer", graph.From(d, value.Int(8)))
	is(t, "From null", graph.From(d, value.Null()))
	is(t, "From a deep object", graph.From(d, sample.Nest(ref(8), api.MaxDepth-1)), 8)
	is(t, "From an array", graph.From(d, value.Array(ref(8), ref(7), ref(9), ref(8))), 7, 8)
	for _, num := range []int{math.MinInt, -1, 0, 2, 9, 77, api.MaxNum, api.MaxNum + 1, math.MaxInt} {
		is(t, fmt.Sprint("Users of ", num), graph.Users(d, num))
	}
}

// Promises 29.1 and 29.2: there is nothing for what is invalid.
func TestInvalid(t *testing.T) {
	for _, b := range sample.BadDocs() {
		lists := [][]int{graph.Reach(b.Is), graph.Lost(b.Is), graph.Dangling(b.Is), graph.From(b.Is, ref(1)), graph.From(b.Is, value.Null()), graph.Users(b.Is, 1), graph.Users(b.Is, 2)}
		for i, list := range lists {
			if len(list) > 0 {
				t.Errorf("list %d of %s is %v", i, brief(b.Is), list)
			}
		}
	}
	d := sample.Doc(1, item(1, sample.Dict("A", ref(2))), item(2, value.Null()))
	for _, b := range sample.BadObjects() {
		is(t, "From "+brief(b.Is), graph.From(d, b.Is))
		is(t, "From in an array", graph.From(d, value.Array(ref(1), b.Is)))
	}
}

// Promises 29.1 and 29.2, and determinism: the arguments stay as they are, and the answers do not depend on earlier calls.
func TestArguments(t *testing.T) {
	d := sample.Webs()[6]
	was, o := clone(d), value.Array(ref(1), sample.Dict("A", ref(2)))
	for range 20 {
		list := [][]int{graph.Reach(d), graph.Lost(d), graph.Dangling(d), graph.Users(d, 15), graph.From(d, o)}
		again := [][]int{graph.Reach(d), graph.Lost(d), graph.Dangling(d), graph.Users(d, 15), graph.From(d, o)}
		if fmt.Sprint(list) != fmt.Sprint(again) {
			t.Errorf("%v, then %v", list, again)
		}
		for _, l := range list {
			slices.Reverse(l)
		}
	}
	if !docs.Same(d, was) || !value.Same(o, value.Array(ref(1), sample.Dict("A", ref(2)))) {
		t.Error("an argument has changed")
	}
}

// Promise 29.1: the longest chain.
func TestChain(t *testing.T) {
	d := sample.Chain(api.MaxNum-1, api.MaxDepth-2)
	var all []int
	for num := range api.MaxNum - 1 {
		all = append(all, num+1)
	}
	is(t, "Reach", graph.Reach(d), all...)
	is(t, "Lost", graph.Lost(d))
	is(t, "Dangling", graph.Dangling(d), api.MaxNum)
	is(t, "From the last", graph.From(d, ref(api.MaxNum-1)), api.MaxNum-1)
	is(t, "Users of the last", graph.Users(d, api.MaxNum-1), api.MaxNum-2)
}

// P5: many references take no more time than to look at each of them a few times.
func TestTime(t *testing.T) {
	start := time.Now()
	var kids []api.Object
	for num := range 4000 {
		kids = append(kids, ref(num+1), ref(api.MaxNum-num))
	}
	d := sample.Doc(1, item(1, sample.Dict("A", value.Array(kids...))))
	for num := 2; num <= 1000; num++ {
		d.Items = append(d.Items, item(num, api.Object{Kind: api.KArray, Kids: kids}))
	}
	if n := len(graph.Reach(d)); n != 1000 {
		t.Errorf("Reach has %d numbers", n)
	}
	if n := len(graph.Lost(d)); n != 0 {
		t.Errorf("Lost has %d numbers", n)
	}
	if n := len(graph.Dangling(d)); n != 7000 {
		t.Errorf("Dangling has %d numbers", n)
	}
	if n := len(graph.Users(d, 1000)); n != 1000 {
		t.Errorf("Users has %d numbers", n)
	}
	if spent := time.Since(start); spent > 20*time.Second {
		t.Errorf("%v were spent", spent)
	}
}
