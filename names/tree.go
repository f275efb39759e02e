package names

import (
	"iter"
	"slices"

	"foliant/api"
	"foliant/docs"
	"foliant/give"
	"foliant/value"
	"foliant/web"
)

// The keys of a node.
const (
	namesKey  = "Names"
	kidsKey   = "Kids"
	limitsKey = "Limits"
)

// tree is a name tree of a valid document, which it follows in the document's memory.
type tree struct {
	web  web.Web
	root api.Object
}

// treeOf returns the tree of d whose root is o, or gives up if one of them is invalid or there is none.
func treeOf(d api.Doc, o api.Object) tree {
	give.UpOn(docs.Check(d))
	give.UpOn(value.Check(o))
	return planted(web.Of(d), o)
}

// planted returns the tree whose root is o, or gives up if there is none.
func planted(w web.Web, o api.Object) tree {
	if w.Follow(o).Kind == api.KNull {
		give.Up(api.ErrNone)
	}
	return tree{w, o}
}

// node is a node of a name tree, which has kids or pairs: keys and values, which alternate.
type node struct {
	pairs, kids []api.Object
}

// checkDepth gives up if a node lies inside too many others.
func checkDepth(inside int) {
	if inside >= api.MaxDepth {
		give.Up(api.ErrDeep)
	}
}

// node returns the node that o resolves to, or gives up if it is none. What its kids are is not looked at.
func (t tree) node(o api.Object) node {
	o = t.web.Follow(o)
	_, leaf := web.Get(o, namesKey)
	_, inner := web.Get(o, kidsKey)
	if o.Kind != api.KDict || leaf == inner {
		give.Up(api.ErrName)
	}
	if inner {
		return node{kids: t.array(o, kidsKey)}
	}
	pairs := t.array(o, namesKey)
	if len(pairs)%2 != 0 {
		give.Up(api.ErrName)
	}
	for pair := range slices.Chunk(pairs, 2) {
		if pair[0].Kind != api.KString {
			give.Up(api.ErrName)
		}
	}
	return node{pairs: pairs}
}

// array returns what a node's array has.
func (t tree) array(o api.Object, key string) []api.Object {
	list := t.web.Path(o, key)
	if list.Kind != api.KArray {
		give.Up(api.ErrName)
	}
	return list.Kids
}

// entries yields the entries of a node.
func (n node) entries() iter.Seq[api.Entry] {
	return func(yield func(api.Entry) bool) {
		for pair := range slices.Chunk(n.pairs, 2) {
			if !yield(api.Entry{Key: pair[0].S, Val: pair[1]}) {
				return
			}
		}
	}
}

// entries yields the entries of the tree, and gives up with the first error of a node.
func (t tree) entries() iter.Seq[api.Entry] {
	return func(yield func(api.Entry) bool) {
		w := walk{tree: t, yield: yield}
		w.visit(t.root, 0)
	}
}

// walk goes through a name tree.
type walk struct {
	tree
	visited int
	yield   func(api.Entry) bool
}

// visit yields the entries of the node o, which lies inside so many others, and reports whether more are wanted.
func (w *walk) visit(o api.Object, inside int) bool {
	checkDepth(inside)
	if w.visited >= api.MaxTree {
		give.Up(api.ErrMany)
	}
	w.visited++
	n := w.node(o)
	for e := range n.entries() {
		if !w.yield(e) {
			return false
		}
	}
	for _, kid := range n.kids {
		if !w.visit(kid, inside+1) {
			return false
		}
	}
	return true
}

// find returns the value of a key, in the document's memory.
func (t tree) find(key string) api.Object {
	o := t.root
	for inside := 0; ; inside++ {
		checkDepth(inside)
		n := t.node(o)
		for e := range n.entries() {
			if e.Key == key {
				return e.Val
			}
		}
		o = t.kid(n, key)
	}
}

// kid returns the first kid of a node whose limits include a key.
func (t tree) kid(n node, key string) api.Object {
	for _, kid := range n.kids {
		least, greatest := t.limits(kid)
		if least <= key && key <= greatest {
			return kid
		}
	}
	give.Up(api.ErrNone)
	return api.Object{}
}

// limits returns the limits of a node, or gives up if it has none.
func (t tree) limits(o api.Object) (least, greatest string) {
	l := t.web.Path(o, limitsKey)
	if t.web.Follow(o).Kind != api.KDict || l.Kind != api.KArray || len(l.Kids) != 2 {
		give.Up(api.ErrName)
	}
	from, to := l.Kids[0], l.Kids[1]
	if from.Kind != api.KString || to.Kind != api.KString {
		give.Up(api.ErrName)
	}
	return from.S, to.S
}
