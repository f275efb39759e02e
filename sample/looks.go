package sample

import (
	"strconv"

	"foliant/api"
)

// Looks returns valid documents whose forms have fields of many shapes, with boxes and appearances, in some of which something is wrong. They share no memory.
func Looks() []api.Doc {
	var list []api.Doc
	for n := range 600 {
		g := grove{mixer: mixer{uint32(n)}, size: 1 + n%4}
		list = append(list, g.doc(func(entries map[string]api.Object) {
			g.flawed, g.odds = n%5 == 0, 40
			g.blanks(entries)
			g.flawed, g.odds = n%2 == 0, 15
			for i := range g.items {
				g.dress(i)
			}
		}))
	}
	return list
}

// dress adds a box and an appearance to the item with the index at, if it is a node of a form or a widget.
func (g *grove) dress(at int) {
	o, entries, node := g.items[at].Obj, map[string]api.Object{}, false
	for i, key := range o.Keys {
		entries[key] = o.Kids[i]
		node = node || key == "T" || key == "FT" || key == "Subtype"
	}
	if !node || o.Kind != api.KDict {
		return
	}
	entries["Rect"] = g.frame()
	if !g.once(4) {
		entries["AP"] = g.either(Dict("D N", whole(1), g.either(g.drawing())))
	}
	if g.flaw() {
		key := []string{"Rect", "AP"}[g.pick(2)]
		entries[key] = g.among(api.Object{}, Ref(99, 0), g.anything(), Dict("N", g.anything()), Dict("N", Dict("N", g.either(g.drawing()))), Array(whole(0), whole(0), whole(api.MaxInt), whole(1)), Array(Ref(99, 0), whole(0), whole(1), whole(1)))
	}
	g.items[at].Obj = Entries(entries)
}

// frame makes a box of some width and height, or of none.
func (g *grove) frame() api.Object {
	x, y, scale := g.pick(400)-200, g.pick(400)-200, 1+g.pick(10)
	list := Array()
	for _, n := range []int{x, y, x + g.pick(20)*scale, y + g.pick(5)*scale} {
		list.Kids = append(list.Kids, g.either(whole(n)))
	}
	switch {
	case g.once(4):
		list.Kids[1], list.Kids[3] = list.Kids[3], list.Kids[1]
	case g.once(4):
		list.Kids[3] = api.Object{Kind: api.KReal, N: int64(y*api.One + 1 + g.pick(300000))}
	case g.once(20):
		list.Kids[0], list.Kids[2] = whole(-api.MaxFix/api.One), whole(api.MaxFix/api.One)
	}
	return g.either(list)
}

// drawing makes an appearance.
func (g *grove) drawing() api.Object {
	entries := map[string]api.Object{"Subtype": name("Form"), "Resources": g.either(g.resources(nil))}
	content := g.words(2 + g.pick(12))
	if g.once(6) {
		delete(entries, "Resources")
		content = "q 1 0 0 1 2 3 cm Q"
	}
	if g.once(8) {
		entries["Resources"] = g.among(Ref(99, 0), name("F"), Array(), Dict(""))
	}
	if g.once(4) {
		entries["Filter"] = name("AHx")
		digits := ""
		for _, c := range []byte(content) {
			digits += strconv.FormatInt(int64(c)+256, 16)[1:]
		}
		content = digits + ">"
	}
	if g.flaw() {
		entries["Filter"] = g.among(name("AHx"), name("JPXDecode"), whole(1), Ref(99, 0))
	}
	o := Entries(entries)
	o.Kind, o.S = api.KStream, content
	return o
}
