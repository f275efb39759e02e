package shift

import (
	"slices"

	"foliant/api"
	"foliant/value"
	"foliant/web"
)

// place is the number and the generation of an item.
type place struct {
	num, gen int
}

// numbering has the new place of the item with each number.
type numbering map[int]place

// taken returns the numbers that items have now.
func (next numbering) taken() map[int]bool {
	nums := map[int]bool{}
	for _, p := range next {
		nums[p.num] = true
	}
	return nums
}

// document returns a valid document, each of whose items has a new place, with its items there.
func (next numbering) document(d api.Doc) api.Doc {
	change := next.change(d)
	moved := api.Doc{Trailer: changed(d.Trailer, change)}
	for _, i := range d.Items {
		p := next[i.Num]
		moved.Items = append(moved.Items, api.Item{Num: p.num, Gen: p.gen, Obj: changed(i.Obj, change)})
	}
	slices.SortFunc(moved.Items, func(a, b api.Item) int { return a.Num - b.Num })
	return moved
}

// change returns what becomes of a reference of d: one to an item's new place, or null if it is dangling.
func (next numbering) change(d api.Doc) func(api.Object) api.Object {
	w := web.Of(d)
	return func(ref api.Object) api.Object {
		i, ok := w.Item(ref)
		if !ok {
			return value.Null()
		}
		p := next[i.Num]
		return value.Ref(p.num, p.gen)
	}
}

// changed returns o with each reference changed, without the entries whose values become null.
func changed(o api.Object, change func(ref api.Object) api.Object) api.Object {
	if o.Kind == api.KRef {
		return change(o)
	}
	keys, kids := o.Keys, o.Kids
	o.Keys, o.Kids = make([]string, 0, len(keys)), make([]api.Object, 0, len(kids))
	for i, kid := range kids {
		kid = changed(kid, change)
		if o.Kind == api.KArray {
			o.Kids = append(o.Kids, kid)
		} else if kid.Kind != api.KNull {
			o.Keys = append(o.Keys, keys[i])
			o.Kids = append(o.Kids, kid)
		}
	}
	return o
}
