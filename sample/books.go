package sample

import (
	"slices"
	"strings"

	"foliant/api"
)

// Books returns valid documents with pages, and with destinations, names of them, page labels and outlines of many shapes, in some of which something is wrong. They share no memory.
func Books() []api.Doc {
	var list []api.Doc
	for n := range 800 {
		g := grove{mixer: mixer{uint32(n)}, size: 1 + n%9, flawed: n%4 == 0, odds: 80}
		list = append(list, g.doc(func(entries map[string]api.Object) {
			// The pages have their flaws by now: those of what follows are on their own.
			g.flawed, g.odds = n%2 == 0, 25
			g.bind(entries)
		}))
	}
	return list
}

// Keys returns the keys that the names of a document of Books are chosen from, in increasing order.
func Keys() []string {
	return []string{"", "\x00", "A", "Aa", "B", "a", "a\x00", "ab", "b", "ba", "c", "d", "e", "\xff"}
}

// bind adds what Books has beside pages to the entries of a catalog.
func (g *grove) bind(entries map[string]api.Object) {
	if !g.once(4) {
		entries["Names"] = g.either(Entries(map[string]api.Object{"Dests": g.names(), "Else": g.extra()}))
	}
	if g.once(2) {
		dests := map[string]api.Object{}
		for range g.pick(5) {
			if key := g.key(); !strings.Contains(key, "\x00") {
				dests[key] = g.target()
			}
		}
		entries["Dests"] = g.either(Entries(dests))
	}
	if !g.once(4) {
		entries["PageLabels"] = g.either(Entries(map[string]api.Object{"Nums": g.either(g.labels()), "Else": g.extra()}))
	}
	if !g.once(4) {
		entries["Outlines"] = g.either(Entries(g.outline()))
	}
	for _, key := range []string{"Names", "Dests", "PageLabels", "Outlines"} {
		if g.flaw() {
			entries[key] = g.among(api.Object{}, g.anything(), Array(g.anything()), name(key), g.stream())
			if entries[key].Kind == api.KStream {
				entries[key] = g.either(entries[key])
			}
		}
	}
}

// key returns one of the keys.
func (g *grove) key() string { return Keys()[g.pick(len(Keys()))] }

// whole returns an integer.
func whole(n int) api.Object { return api.Object{Kind: api.KInt, N: int64(n)} }

// text returns a string.
func text(s string) api.Object { return api.Object{Kind: api.KString, S: s} }

// names makes a name tree.
func (g *grove) names() api.Object {
	keys := slices.DeleteFunc(Keys(), func(string) bool { return g.once(2) })
	if g.flaw() {
		keys = append(keys, keys...)
	}
	return g.branch(keys, 0)
}

// branch makes a node of a name tree with all below it.
func (g *grove) branch(keys []string, inside int) api.Object {
	entries := map[string]api.Object{"Else": g.extra()}
	if len(keys) > 0 && (inside > 0 || g.once(3)) && !g.flaw() {
		entries["Limits"] = g.either(Array(text(keys[0]), text(keys[len(keys)-1])))
	}
	if inside > 4 || len(keys) < 2 || g.once(3) {
		pairs := Array()
		for _, key := range keys {
			pairs.Kids = append(pairs.Kids, text(key), g.target())
		}
		if g.flaw() {
			pairs.Kids = append(pairs.Kids, g.among(text("f"), g.anything()))
		}
		entries["Names"] = g.either(pairs)
	} else {
		kids := Array()
		for len(keys) > 0 {
			n := 1 + g.pick(len(keys))
			kids.Kids = append(kids.Kids, g.branch(keys[:n], inside+1))
			keys = keys[n:]
		}
		entries["Kids"] = g.either(kids)
	}
	if g.flaw() {
		key := []string{"Names", "Kids", "Limits"}[g.pick(3)]
		entries[key] = g.among(api.Object{}, g.anything(), Array(g.anything()), Array(text("a"), name("b")), Array(text("b"), text("a"), text("c")))
	}
	return g.either(Entries(entries))
}

// target makes something that leads to a destination, or should.
func (g *grove) target() api.Object {
	o := g.either(g.dest())
	switch {
	case g.once(3):
		return g.either(Dict("D", o))
	case g.once(5):
		return g.among(text(g.key()), name("A"), name("a"), name("ba"), api.Object{}, Ref(99, 0))
	}
	return o
}

// dest makes a destination, or something that is like one.
func (g *grove) dest() api.Object {
	views := []string{"XYZ", "Fit", "FitH", "FitV", "FitR"}
	sizes := []int{3, 0, 1, 1, 4}
	n := g.pick(len(views))
	page := g.anything()
	if len(g.leaves) > 0 && !g.once(12) {
		page = g.among(g.leaves...)
	}
	list := Array(page, name(views[n]))
	for range sizes[n] {
		list.Kids = append(list.Kids, g.among(g.number(), g.number(), api.Object{}, Ref(99, 0)))
	}
	if g.once(16) {
		return g.among(Array(), Array(page), Array(whole(0), name("Fit")), Array(page, name("fit")), Array(page, text("Fit")), Array(page, name("Fit"), whole(1)), Array(page, name("FitH")), Array(page, name("FitV"), name("Fit")), Array(page, name("FitH"), whole(api.MaxFix/api.One+1)), g.anything(), Dict("A", list))
	}
	return list
}

// labels makes the array of page labels.
func (g *grove) labels() api.Object {
	list := Array()
	from := 0
	for range g.pick(5) {
		entries := map[string]api.Object{"Else": g.extra()}
		if !g.once(4) {
			entries["S"] = name([]string{"D", "R", "r", "A", "a"}[g.pick(5)])
		}
		if g.once(2) {
			entries["P"] = text(g.key())
		}
		if g.once(2) {
			entries["St"] = whole(1 + g.pick(30))
		}
		if g.flaw() {
			key := []string{"S", "P", "St"}[g.pick(3)]
			entries[key] = g.among(name(""), name("B"), whole(0), whole(-1), g.either(whole(1)), g.either(name("D")))
		}
		number := whole(from)
		if g.flaw() {
			number = g.among(whole(-1), whole(api.MaxPages), whole(0), api.Object{}, g.anything(), Ref(99, 0))
		}
		list.Kids = append(list.Kids, number, g.either(Entries(entries)))
		from += 1 + g.pick(5)
	}
	if g.flaw() {
		list.Kids = append(list.Kids, g.among(g.anything(), whole(2000), Dict("")))
	}
	return list
}

// outline makes the entries of an outline.
func (g *grove) outline() map[string]api.Object {
	entries := map[string]api.Object{"Type": name("Outlines"), "Else": g.extra()}
	g.marks(entries, 0, nil)
	return entries
}

// marks makes marks that lie inside so many others, and adds references to them to the entries above. The marks above are those that they lie inside.
func (g *grove) marks(entries map[string]api.Object, inside int, above []api.Object) {
	last := api.Object{}
	for range g.pick(5 - inside) {
		// Made from the last mark to the first one, each of which refers to the next.
		ref := g.next()
		mark := map[string]api.Object{"Title": g.either(text(g.key())), "Next": last, "Else": g.extra()}
		if !g.once(3) {
			mark["Dest"] = g.target()
		}
		if g.once(2) {
			g.marks(mark, inside+1, append(above, ref))
		}
		if !g.once(4) {
			mark["Count"] = g.either(whole(g.pick(5) - 2))
		}
		if g.flaw() {
			key := []string{"Title", "First", "Next", "Count"}[g.pick(4)]
			mark[key] = g.among(append([]api.Object{{}, Ref(99, 0), ref, last, g.anything(), Dict("Title", text("t"))}, above...)...)
		}
		last = g.set(ref, Entries(mark))
	}
	entries["First"] = last
}
