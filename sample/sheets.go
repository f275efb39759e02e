package sample

import "foliant/api"

// Sheets returns valid documents whose pages have annotations of many shapes, in some of which something is wrong. They share no memory.
func Sheets() []api.Doc {
	var list []api.Doc
	for n := range 600 {
		g := grove{mixer: mixer{uint32(n)}, size: 1 + n%9, flawed: n%6 == 0, odds: 80}
		list = append(list, g.doc(func(entries map[string]api.Object) {
			g.flawed, g.odds = n%2 == 0, 25
			entries["Names"] = g.either(Dict("Dests", g.names()))
			for _, leaf := range g.leaves {
				if !g.once(6) {
					g.annotate(leaf)
				}
			}
		}))
	}
	return list
}

// annotate adds annotations to the page to which ref refers.
func (g *grove) annotate(ref api.Object) {
	list := Array()
	for range g.pick(5) {
		list.Kids = append(list.Kids, g.either(g.annotation()))
	}
	if n := len(list.Kids); n > 0 && g.once(6) {
		list.Kids = append(list.Kids, list.Kids[0])
	}
	if g.flaw() {
		list.Kids = append(list.Kids, g.among(g.anything(), api.Object{}, Ref(99, 0), Array(Dict(""))))
	}
	annots := g.either(list)
	if g.flaw() {
		annots = g.among(g.anything(), Ref(99, 0), name("Annots"), Dict(""))
	}
	for i := range g.items {
		if int64(g.items[i].Num) == ref.N {
			entries := map[string]api.Object{"Annots": annots}
			for at, key := range g.items[i].Obj.Keys {
				entries[key] = g.items[i].Obj.Kids[at]
			}
			g.items[i].Obj = Entries(entries)
		}
	}
}

// annotation makes the dictionary of an annotation.
func (g *grove) annotation() api.Object {
	entries := map[string]api.Object{"Type": name("Annot"), "Else": g.extra(), "Subtype": g.either(g.among(name("Link"), name("Text"), name(""))), "Rect": g.box()}
	if g.once(2) {
		entries["Contents"] = g.either(text(g.key()))
	}
	if g.once(8) {
		entries["Contents"] = Ref(99, 0)
	}
	if g.once(2) {
		entries["Dest"] = g.target()
	}
	if g.flaw() {
		key := []string{"Subtype", "Rect", "Contents", "Dest"}[g.pick(4)]
		entries[key] = g.among(api.Object{}, g.anything(), Ref(99, 0), text("Link"), name("Link"), whole(7), Array(whole(1), whole(2), whole(3), text("4")))
	}
	return Entries(entries)
}
