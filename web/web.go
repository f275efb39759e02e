// Package web follows the references between the items of a document.
package web

import (
	"iter"
	"slices"

	"foliant/api"
)

// Web has the items of a document by their numbers, in the document's memory.
type Web struct {
	items []*api.Item
}

// Of returns the web of a valid document.
func Of(d api.Doc) Web {
	greatest := 0
	if n := len(d.Items); n > 0 {
		greatest = d.Items[n-1].Num
	}
	w := Web{make([]*api.Item, greatest+1)}
	for i := range d.Items {
		w.items[d.Items[i].Num] = &d.Items[i]
	}
	return w
}

// Item returns the item that a valid reference refers to, and whether there is one.
func (w Web) Item(ref api.Object) (api.Item, bool) {
	if ref.N >= int64(len(w.items)) {
		return api.Item{}, false
	}
	i := w.items[ref.N]
	if i == nil || i.Gen != ref.G {
		return api.Item{}, false
	}
	return *i, true
}

// Num returns the item with the number num, and whether there is one.
func (w Web) Num(num int) (api.Item, bool) {
	if num < 0 || num >= len(w.items) || w.items[num] == nil {
		return api.Item{}, false
	}
	return *w.items[num], true
}

// Dict returns the item that a valid object refers to, and whether it is a reference to a dictionary.
func (w Web) Dict(o api.Object) (api.Item, bool) {
	if o.Kind != api.KRef {
		return api.Item{}, false
	}
	i, ok := w.Item(o)
	if !ok || i.Obj.Kind != api.KDict {
		return api.Item{}, false
	}
	return i, true
}

// Follow returns what a valid object resolves to, in the memory of the object or the document.
func (w Web) Follow(o api.Object) api.Object {
	if o.Kind != api.KRef {
		return o
	}
	i, _ := w.Item(o)
	return i.Obj
}

// Path returns the object to which the keys lead from a valid object, each reference resolved on the way, or null if one of them is absent. It is as docs.Path, but for the memory, which is that of the object or the document, and for the time it takes.
func (w Web) Path(o api.Object, keys ...string) api.Object {
	o = w.Follow(o)
	for _, key := range keys {
		kid, ok := Get(o, key)
		if !ok {
			return api.Object{}
		}
		o = w.Follow(kid)
	}
	return o
}

// Get returns the value of a key of a valid object, in the object's memory, and whether there is one.
func Get(o api.Object, key string) (api.Object, bool) {
	at, ok := slices.BinarySearch(o.Keys, key)
	if !ok {
		return api.Object{}, false
	}
	return o.Kids[at], true
}

// Visits yields the items that a depth-first traversal of o visits, in the order of their first visits. What is still to be traversed stands in a list, since items can form a chain too long to recur along.
func (w Web) Visits(o api.Object) iter.Seq[api.Item] {
	return func(yield func(api.Item) bool) {
		visited := map[int]bool{}
		rest := [][]api.Object{{o}}
		for len(rest) > 0 {
			top := len(rest) - 1
			if len(rest[top]) == 0 {
				rest = rest[:top]
				continue
			}
			next := rest[top][0]
			rest[top] = rest[top][1:]
			if next.Kind == api.KRef {
				i, ok := w.Item(next)
				if !ok || visited[i.Num] {
					continue
				}
				visited[i.Num] = true
				if !yield(i) {
					return
				}
				next = i.Obj
			}
			rest = append(rest, next.Kids)
		}
	}
}

// Refs yields the references in o, or o if it is one, in their order.
func Refs(o api.Object) iter.Seq[api.Object] {
	return func(yield func(api.Object) bool) { eachRef(o, yield) }
}

// eachRef yields the references in o, and reports whether more are wanted.
func eachRef(o api.Object, yield func(api.Object) bool) bool {
	if o.Kind == api.KRef {
		return yield(o)
	}
	for _, kid := range o.Kids {
		if !eachRef(kid, yield) {
			return false
		}
	}
	return true
}
