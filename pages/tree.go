package pages

import (
	"iter"

	"foliant/api"
	"foliant/docs"
	"foliant/give"
	"foliant/value"
	"foliant/web"
)

// tree is the page tree of a valid document, which it follows in the document's memory.
type tree struct {
	web  web.Web
	root api.Object
}

// treeOf returns the page tree of d, or gives up if d is invalid.
func treeOf(d api.Doc) tree {
	give.UpOn(docs.Check(d))
	w := web.Of(d)
	root, _ := value.Get(w.Path(d.Trailer, "Root"), "Pages")
	return tree{w, root}
}

// node is a node of a page tree.
type node struct {
	item api.Item
	// leaf tells that the node is a page, which has no kids.
	leaf   bool
	kids   []api.Object
	traits traits
}

// nodes yields the nodes of the page tree, each of them before its kids, and gives up with the first error.
func (t tree) nodes() iter.Seq[node] {
	return func(yield func(node) bool) {
		w := walk{tree: t, met: map[int]bool{}, yield: yield}
		w.visit(t.root, traits{}, 1)
	}
}

// leaves returns the pages, or gives up with the first error of the tree.
func (t tree) leaves() []node {
	var list []node
	for n := range t.nodes() {
		if n.leaf {
			list = append(list, n)
		}
	}
	return list
}

// leaf returns the page with the index n.
func (t tree) leaf(n int) node {
	list := t.leaves()
	if n < 0 || n >= len(list) {
		give.Up(api.ErrNone)
	}
	return list[n]
}

// walk goes through a page tree.
type walk struct {
	tree
	met    map[int]bool
	leaves int
	yield  func(node) bool
}

// visit yields the node that ref refers to and those below it, and reports whether more are wanted.
func (w *walk) visit(ref api.Object, above traits, depth int) bool {
	n := w.node(ref)
	w.meet(n, depth)
	n.traits = w.traitsOf(n, above)
	if !w.yield(n) {
		return false
	}
	for _, kid := range n.kids {
		if !w.visit(kid, n.traits, depth+1) {
			return false
		}
	}
	return true
}

// node returns the node that ref refers to, without its traits.
func (t tree) node(ref api.Object) node {
	i, ok := t.web.Dict(ref)
	if !ok {
		give.Up(api.ErrPage)
	}
	kind := t.web.Path(i.Obj, "Type")
	if value.Same(kind, value.Name("Page")) {
		return node{item: i, leaf: true}
	}
	kids := t.web.Path(i.Obj, "Kids")
	if !value.Same(kind, value.Name("Pages")) || kids.Kind != api.KArray {
		give.Up(api.ErrPage)
	}
	return node{item: i, kids: kids.Kids}
}

// meet takes a node in, which must not have been met before, lie too deep, or be one too many.
func (w *walk) meet(n node, depth int) {
	if w.met[n.item.Num] {
		give.Up(api.ErrLoop)
	}
	if depth > api.MaxDepth {
		give.Up(api.ErrDeep)
	}
	w.met[n.item.Num] = true
	if n.leaf {
		w.leaves++
	}
	if len(w.met) > api.MaxTree || w.leaves > api.MaxPages {
		give.Up(api.ErrMany)
	}
}
