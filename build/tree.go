package build

import (
	"slices"

	"foliant/api"
	"foliant/catalog"
	"foliant/docs"
	"foliant/give"
	"foliant/pages"
	"foliant/value"
	"foliant/web"
)

// node is a node of a page tree that is built, or a page, which has no kids.
type node struct {
	item api.Item
	kids []*node
	// leaves is the number of pages at or below the node.
	leaves int
}

// rebuilt does what Tree does, for a document and pages that it takes.
func rebuilt(d api.Doc, nums []int, fan int) api.Doc {
	d, top := cleared(d, nums)
	w := web.Of(d)
	next := d.Items[len(d.Items)-1].Num + 1
	add := func() api.Item {
		if next > api.MaxNum {
			give.Up(api.ErrFull)
		}
		next++
		return api.Item{Num: next - 1}
	}
	root := &node{}
	if top > 0 {
		root.item, _ = w.Num(top)
	} else {
		root.item = add()
	}
	var row []*node
	for _, num := range nums {
		i, _ := w.Num(num)
		row = append(row, &node{item: i, leaves: 1})
	}
	for len(row) > fan {
		row = grouped(row, fan, add)
	}
	root.take(row)
	d = give.Value(docs.Apply(d, root.items(value.Null()), nil))
	return give.Value(catalog.SetRoot(d, "Pages", root.ref()))
}

// cleared returns d with all that they inherit in those of the pages nums that are in its page tree, and without the inner nodes of the tree. Its root stays, and the number of that is returned, or 0 if there is none.
func cleared(d api.Doc, nums []int) (api.Doc, int) {
	list, e := pages.List(d)
	if e != api.OK {
		return d, 0
	}
	listed := map[int]api.Page{}
	for _, p := range list {
		listed[p.Num] = p
	}
	w := web.Of(d)
	var changed []api.Item
	for _, num := range nums {
		if p, ok := listed[num]; ok {
			i, _ := w.Num(num)
			i.Obj = owned(w, p)
			changed = append(changed, i)
		}
	}
	top, inner := 0, give.Value(pages.Inner(d))
	if len(inner) > 0 {
		top, inner = inner[0], inner[1:]
	}
	return give.Value(docs.Apply(d, changed, inner)), top
}

// grouped returns a row of new nodes whose kids are the nodes of row, in their order, up to fan of them each.
func grouped(row []*node, fan int, add func() api.Item) []*node {
	var above []*node
	for kids := range slices.Chunk(row, fan) {
		n := &node{item: add()}
		n.take(kids)
		above = append(above, n)
	}
	return above
}

// take makes the nodes of row the kids of n.
func (n *node) take(row []*node) {
	n.kids = row
	for _, kid := range row {
		n.leaves += kid.leaves
	}
}

// ref returns a reference to a node.
func (n *node) ref() api.Object { return value.Ref(n.item.Num, n.item.Gen) }

// items returns the items of a node below parent, which is null for the root, and of all nodes below it.
func (n *node) items(parent api.Object) []api.Item {
	i := n.item
	if len(n.kids) == 0 && parent.Kind != api.KNull {
		i.Obj = give.Value(value.Set(i.Obj, "Parent", parent))
		return []api.Item{i}
	}
	var refs []api.Object
	for _, kid := range n.kids {
		refs = append(refs, kid.ref())
	}
	i.Obj = give.Value(value.Dict(
		value.Name("Count"), value.Int(int64(n.leaves)),
		value.Name("Kids"), value.Array(refs...),
		value.Name("Parent"), parent,
		value.Name("Type"), value.Name("Pages")))
	list := []api.Item{i}
	for _, kid := range n.kids {
		list = append(list, kid.items(n.ref())...)
	}
	return list
}
