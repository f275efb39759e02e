package look

import (
	"maps"
	"slices"

	"foliant/api"
	"foliant/docs"
	"foliant/give"
	"foliant/pages"
	"foliant/value"
	"foliant/web"
)

// dressed returns a valid document in which each of the items nums, in their order, gets an appearance, as made returns it for the item's box.
func dressed(d api.Doc, nums []int, made func(box api.Rect) api.Object) api.Doc {
	w := web.Of(d)
	last := d.Items[len(d.Items)-1].Num
	var l []api.Item
	// newest has the number of the last appearance that each item got, since the same one may show a field many times.
	newest := map[int]int{}
	for _, num := range nums {
		i, _ := w.Num(num)
		o := made(boxOf(w, i))
		if last >= api.MaxNum {
			give.Up(api.ErrFull)
		}
		last++
		l = append(l, api.Item{Num: last, Obj: o})
		if newest[num] == 0 {
			// For its error, which comes before those of the next item.
			showing(i, last)
		}
		newest[num] = last
	}
	for _, num := range slices.Sorted(maps.Keys(newest)) {
		i, _ := w.Num(num)
		l = append(l, showing(i, newest[num]))
	}
	return give.Value(docs.Apply(d, l, nil))
}

// boxOf returns the box of an item that shows a field.
func boxOf(w web.Web, i api.Item) api.Rect {
	if i.Obj.Kind != api.KDict {
		give.Up(api.ErrKind)
	}
	rect, _ := web.Get(i.Obj, "Rect")
	return give.Value(pages.Box(w, rect))
}

// showing returns an item with the item num as its appearance.
func showing(i api.Item, num int) api.Item {
	i.Obj = give.Value(value.Set(i.Obj, appearanceKey, dict(value.Name(normalKey), value.Ref(num, 0))))
	return i
}
