package graph_test

import (
	"slices"
	"testing"

	"foliant/api"
	"foliant/graph"
	"foliant/sample"
	"foliant/value"
)

// link is the number and generation of a reference or an item.
type link struct {
	num int64
	gen int
}

// linksIn returns the references in an object.
func linksIn(o api.Object) []link {
	var list []link
	if o.Kind == api.KRef {
		list = append(list, link{o.N, o.G})
	}
	for _, kid := range o.Kids {
		list = append(list, linksIn(kid)...)
	}
	return list
}

// linksTo reports whether a reference in an object resolves to an item.
func linksTo(o api.Object, i api.Item) bool {
	return slices.Contains(linksIn(o), link{int64(i.Num), i.Gen})
}

// from finds what can be reached, by the words of the chapter: it goes through all items till there is no more to add.
func from(d api.Doc, o api.Object) []int {
	found := map[int]bool{}
	for grown := true; grown; {
		grown = false
		for _, i := range d.Items {
			hit := linksTo(o, i)
			for _, user := range d.Items {
				hit = hit || found[user.Num] && linksTo(user.Obj, i)
			}
			if hit && !found[i.Num] {
				found[i.Num], grown = true, true
			}
		}
	}
	var list []int
	for num := range api.MaxNum + 1 {
		if found[num] {
			list = append(list, num)
		}
	}
	return list
}

// lost returns the items that are not in a list.
func lost(d api.Doc, reached []int) []int {
	var list []int
	for _, i := range d.Items {
		if !slices.Contains(reached, i.Num) {
			list = append(list, i.Num)
		}
	}
	return list
}

// dangling returns the numbers of references that resolve to nothing.
func dangling(d api.Doc) []int {
	links := linksIn(d.Trailer)
	for _, i := range d.Items {
		links = append(links, linksIn(i.Obj)...)
	}
	var list []int
	for _, l := range links {
		if !slices.ContainsFunc(d.Items, func(i api.Item) bool { return l == link{int64(i.Num), i.Gen} }) {
			list = append(list, int(l.num))
		}
	}
	slices.Sort(list)
	return slices.Compact(list)
}

// users returns what refers to an item.
func users(d api.Doc, num int) []int {
	var list []int
	for _, i := range d.Items {
		if i.Num != num {
			continue
		}
		if linksTo(d.Trailer, i) {
			list = append(list, 0)
		}
		for _, user := range d.Items {
			if linksTo(user.Obj, i) {
				list = append(list, user.Num)
			}
		}
	}
	return list
}

// Promises 29.1 and 29.2, by the words of the chapter.
func TestWords(t *testing.T) {
	for n, d := range sample.Webs() {
		reached := from(d, d.Trailer)
		is(t, "Reach of "+brief(d), graph.Reach(d), reached...)
		is(t, "Lost of "+brief(d), graph.Lost(d), lost(d, reached)...)
		is(t, "Dangling of "+brief(d), graph.Dangling(d), dangling(d)...)
		for num := range 18 {
			is(t, "Users in "+brief(d), graph.Users(d, num), users(d, num)...)
			for gen := range 2 {
				o := value.Array(sample.Ref(num+1, gen), sample.Dict("A", sample.Ref(1+(num*n)%17, 0)))
				is(t, "From in "+brief(d), graph.From(d, o), from(d, o)...)
			}
		}
	}
	for _, d := range sample.Docs() {
		if len(d.Items) < 100 {
			reached := from(d, d.Trailer)
			is(t, "Reach of "+brief(d), graph.Reach(d), reached...)
			is(t, "Lost of "+brief(d), graph.Lost(d), lost(d, reached)...)
		}
		is(t, "Dangling of "+brief(d), graph.Dangling(d), dangling(d)...)
	}
}

// Promise 29.3.
func TestConsequences(t *testing.T) {
	for _, d := range sample.Webs() {
		reached, gone := graph.Reach(d), graph.Lost(d)
		for _, i := range d.Items {
			used := slices.ContainsFunc(graph.Users(d, i.Num), func(user int) bool { return user == 0 || slices.Contains(reached, user) })
			if is := slices.Contains(reached, i.Num); is != used || is == slices.Contains(gone, i.Num) {
				t.Errorf("item %d of %s is reached: %v, is used: %v, is lost: %v", i.Num, brief(d), is, used, !is)
			}
			whole := graph.From(d, i.Obj)
			for _, num := range whole {
				at := slices.IndexFunc(d.Items, func(j api.Item) bool { return j.Num == num })
				for _, part := range graph.From(d, d.Items[at].Obj) {
					if !slices.Contains(whole, part) {
						t.Errorf("%d can be reached from %d, but not from %d in %s", part, num, i.Num, brief(d))
					}
				}
			}
		}
	}
}
