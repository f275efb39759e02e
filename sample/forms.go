package sample

import "foliant/api"

// Forms returns valid documents whose forms have fields of many shapes, in some of which something is wrong. They share no memory.
func Forms() []api.Doc {
	var list []api.Doc
	for n := range 1000 {
		g := grove{mixer: mixer{uint32(n)}, size: 1 + n%4, flawed: n%7 == 0, odds: 80}
		list = append(list, g.doc(func(entries map[string]api.Object) {
			g.flawed, g.odds = n%2 == 0, 20
			g.blanks(entries)
		}))
	}
	return list
}

// blanks adds a form to the entries of a catalog.
func (g *grove) blanks(entries map[string]api.Object) {
	if g.once(12) {
		entries["AcroForm"] = g.among(api.Object{}, Ref(99, 0), Dict(""), Dict("Fields", Array()))
		return
	}
	fields := Array()
	for range g.pick(5) {
		fields.Kids = append(fields.Kids, g.blank(0))
	}
	form := map[string]api.Object{"Fields": g.either(fields), "Else": g.extra()}
	if g.flaw() {
		form["Fields"] = g.among(api.Object{}, g.anything(), Ref(99, 0), name("Fields"), Dict(""))
	}
	entries["AcroForm"] = g.either(Entries(form))
	if g.flaw() {
		entries["AcroForm"] = g.among(g.anything(), name("AcroForm"), Array())
	}
}

// blank makes a node of a form that is nested in so many others, and all below it.
func (g *grove) blank(inside int) api.Object {
	ref := g.next()
	entries := map[string]api.Object{"T": g.either(text(g.key())), "Else": g.extra()}
	if g.once(8) {
		entries["T"] = Ref(99, 0)
	}
	if inside > 0 && g.once(8) {
		delete(entries, "T")
	}
	if inside == 0 || g.once(3) {
		entries["FT"] = g.either(name([]string{"Tx", "Btn", "Ch"}[g.pick(3)]))
	}
	if g.once(2) {
		entries["V"] = g.either(g.among(text(g.key()), name("Yes"), name("Off")))
	}
	if g.once(4) {
		entries["Ff"] = g.either(whole(g.pick(5)))
	}
	if g.once(2) {
		list := Array()
		for range g.pick(4) {
			list.Kids = append(list.Kids, text(g.key()))
		}
		entries["Opt"] = g.either(list)
	}
	if inside < 4 && g.once(2) {
		entries["Kids"] = g.either(g.below(inside))
	}
	if g.flaw() {
		key := []string{"T", "FT", "V", "Ff", "Opt", "Kids"}[g.pick(6)]
		entries[key] = g.among(api.Object{}, Ref(99, 0), g.anything(), name("Sig"), whole(3), Array(name("a")), Array(Ref(99, 0)))
	}
	return g.set(ref, Entries(entries))
}

// below makes the kids of a node that is nested in so many others: nodes, or the widgets of a field.
func (g *grove) below(inside int) api.Object {
	kids := Array()
	widgets := g.once(2)
	for range g.pick(4) {
		if widgets {
			widget := Dict("Else Subtype", Array(g.extra()), name("Widget"))
			kids.Kids = append(kids.Kids, g.set(g.next(), widget))
		} else {
			kids.Kids = append(kids.Kids, g.blank(inside+1))
		}
	}
	if n := len(kids.Kids); n > 0 && (widgets || g.flawed) && g.once(6) {
		kids.Kids = append(kids.Kids, kids.Kids[0])
	}
	if g.flaw() {
		kids.Kids = append(kids.Kids, g.among(api.Object{}, Ref(99, 0), g.anything(), g.anything(), Dict("T", text("a"))))
	}
	return kids
}
