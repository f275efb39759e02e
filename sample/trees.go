package sample

import (
	"maps"
	"slices"

	"foliant/api"
)

// Trees returns valid documents with page trees of many shapes, in some of which something is wrong. They share no memory.
func Trees() []api.Doc {
	var list []api.Doc
	for n := range 600 {
		g := grove{mixer: mixer{uint32(n)}, size: 1 + n%23, flawed: n%2 == 0, odds: 80}
		list = append(list, g.doc(func(map[string]api.Object) {}))
	}
	return list
}

// grove makes a document with a page tree.
type grove struct {
	mixer
	// size is how many nodes the tree may still have.
	size int
	// flawed tells that something in it may be wrong, once in about so many times as odds says.
	flawed bool
	odds   int
	items  []api.Item
	// refs has references to what there is, and to what there isn't, and leaves those to the leaves of the page tree.
	refs, leaves []api.Object
}

// Entries returns the dictionary of the entries, without those that are null.
func Entries(entries map[string]api.Object) api.Object {
	o := Dict("")
	for _, key := range slices.Sorted(maps.Keys(entries)) {
		if entries[key].Kind != api.KNull {
			o.Keys = append(o.Keys, key)
			o.Kids = append(o.Kids, entries[key])
		}
	}
	return o
}

// name returns a name.
func name(s string) api.Object { return api.Object{Kind: api.KName, S: s} }

// once in so many times it is true.
func (g *grove) once(times int) bool { return g.pick(times) == 0 }

// flaw is true now and then in a tree in which something may be wrong.
func (g *grove) flaw() bool { return g.flawed && g.once(g.odds) }

// next returns a reference to an item that is still null.
func (g *grove) next() api.Object {
	last := 0
	if n := len(g.items); n > 0 {
		last = g.items[n-1].Num
	}
	i := api.Item{Num: last + 1 + g.pick(3)/2, Gen: g.pick(4) / 3}
	g.items = append(g.items, i)
	g.refs = append(g.refs, Ref(i.Num, i.Gen))
	return Ref(i.Num, i.Gen)
}

// set makes o the object of the item to which ref refers.
func (g *grove) set(ref, o api.Object) api.Object {
	for i := range g.items {
		if int64(g.items[i].Num) == ref.N {
			g.items[i].Obj = o
		}
	}
	return ref
}

// either returns o, or a reference to an item that is made of it.
func (g *grove) either(o api.Object) api.Object {
	if o.Kind == api.KStream || o.Kind != api.KRef && o.Kind != api.KNull && g.once(4) {
		return g.set(g.next(), o)
	}
	return o
}

// among returns one of the objects.
func (g *grove) among(list ...api.Object) api.Object { return list[g.pick(len(list))] }

// anything returns a reference to something, which may not be there.
func (g *grove) anything() api.Object {
	if len(g.refs) == 0 || g.once(9) {
		return Ref(1+g.pick(40), g.pick(2))
	}
	return g.among(g.refs...)
}

// doc makes the document, with the entries in its catalog that add adds once there are pages.
func (g *grove) doc(add func(entries map[string]api.Object)) api.Doc {
	root := g.next()
	if g.once(2) {
		g.next()
	}
	entries := map[string]api.Object{"Type": g.among(name("Catalog"), name("Catalog"), api.Object{}), "Extra": g.anything(), "Pages": g.node(root, 1)}
	if g.flaw() {
		entries["Pages"] = g.among(api.Object{}, g.anything(), root, Array(g.anything()))
	}
	add(entries)
	g.set(root, Entries(entries))
	for range g.pick(4) {
		g.either(Entries(map[string]api.Object{"Needs": g.extra()}))
	}
	d := api.Doc{Items: g.items, Trailer: Dict("Root", root)}
	if g.once(4) {
		d.Trailer = Dict("Info Root", g.anything(), root)
	}
	return d
}

// node makes a node of the tree, and all below it.
func (g *grove) node(parent api.Object, depth int) api.Object {
	g.size--
	if g.flaw() {
		return g.among(g.anything(), api.Object{}, Dict("Type", name("Page")), Ref(99, 0))
	}
	ref := g.next()
	entries := g.traits()
	entries["Parent"] = g.among(parent, parent, parent, g.anything(), api.Object{}, Array(g.anything(), parent))
	entries["Needs"] = g.extra()
	entries["Type"] = g.either(name("Page"))
	if depth < 6 && g.size > 0 && !g.once(3) {
		entries["Type"] = g.either(name("Pages"))
		kids := Array()
		for range g.pick(5) {
			kids.Kids = append(kids.Kids, g.node(ref, depth+1))
		}
		if g.flawed && g.once(15) {
			kids.Kids = append(kids.Kids, g.among(append(kids.Kids, ref, parent)...))
		}
		entries["Kids"] = g.either(kids)
		if g.flaw() {
			entries["Kids"] = g.among(api.Object{}, g.anything(), Dict(""))
		}
	} else {
		entries["Contents"] = g.contents()
		g.leaves = append(g.leaves, ref)
	}
	if g.flaw() {
		entries["Type"] = g.among(api.Object{}, name("page"), g.anything())
	}
	return g.set(ref, Entries(entries))
}

// extra returns something that may refer to items of all kinds.
func (g *grove) extra() api.Object {
	switch g.pick(5) {
	case 0:
		return g.anything()
	case 1:
		return Array(g.anything(), g.either(Array(g.anything(), Dict("A", g.anything()))))
	case 2:
		return g.either(Dict("A Parent", g.anything(), g.anything()))
	}
	return api.Object{}
}

// number returns a number from about -300 to 300.
func (g *grove) number() api.Object {
	if g.once(3) {
		return g.either(api.Object{Kind: api.KReal, N: int64(g.pick(6000000) - 3000000)})
	}
	return g.either(api.Object{Kind: api.KInt, N: int64(g.pick(600) - 300)})
}

// box returns a rectangle.
func (g *grove) box() api.Object {
	if g.flaw() {
		return g.among(name("A4"), Array(g.number(), g.number(), g.number()), Array(g.number(), g.number(), g.number(), g.anything()), Dict(""))
	}
	return g.either(Array(g.number(), g.number(), g.number(), g.number()))
}

// traits returns what a node has that the nodes below it inherit.
func (g *grove) traits() map[string]api.Object {
	entries := map[string]api.Object{}
	if !g.flawed || !g.once(5) {
		entries["MediaBox"] = g.box()
	}
	if g.once(3) {
		entries["CropBox"] = g.box()
	}
	if g.once(3) {
		entries["Rotate"] = g.either(api.Object{Kind: api.KInt, N: int64(90 * (g.pick(12) - 6))})
	}
	if g.once(3) {
		entries["Resources"] = g.either(Dict("Font", g.either(Dict("F", g.anything()))))
	}
	if g.flaw() {
		entries["Rotate"] = g.among(g.anything(), api.Object{Kind: api.KInt, N: 45}, api.Object{Kind: api.KReal, N: 900000})
	}
	if g.flaw() {
		entries["Resources"] = g.among(g.anything(), Array())
	}
	for _, key := range []string{"MediaBox", "CropBox", "Rotate", "Resources"} {
		if g.once(12) {
			entries[key] = Ref(99, 0)
		}
	}
	return entries
}

// stream returns a stream of hexadecimal digits or of letters, in which the former may be wrong.
func (g *grove) stream() api.Object {
	o := api.Object{Kind: api.KStream, S: "q Q"}
	if g.once(2) {
		o = Dict("Filter", name("AHx"))
		o.Kind, o.S = api.KStream, "712051>"
	}
	if g.flaw() {
		o.S = "xyz"
	}
	return o
}

// contents returns what a page may have as its contents.
func (g *grove) contents() api.Object {
	switch {
	case g.once(3):
		return api.Object{}
	case g.once(2):
		return g.either(g.stream())
	case g.flaw():
		return g.among(g.anything(), name("q"), Array(g.anything()))
	}
	list := Array()
	for range g.pick(4) {
		list.Kids = append(list.Kids, g.either(g.stream()))
	}
	if n := len(list.Kids); n > 0 && g.once(3) {
		list.Kids = append(list.Kids, list.Kids[0])
	}
	return g.either(list)
}
