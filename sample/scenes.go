package sample

import (
	"slices"
	"strconv"
	"strings"

	"foliant/api"
)

// Scenes returns valid documents whose pages show text, paths, images and forms in many ways, in some of which something is wrong. They share no memory.
func Scenes() []api.Doc {
	var list []api.Doc
	for n := range 900 {
		g := grove{mixer: mixer{uint32(n)}, size: 1 + n%5, flawed: n%3 == 0, odds: 150}
		list = append(list, g.scene())
	}
	return list
}

// scene makes a document whose pages have contents.
func (g *grove) scene() api.Doc {
	for range 1 + g.pick(5) {
		g.next()
	}
	forms := slices.Clone(g.refs)
	for n, ref := range forms {
		g.set(ref, g.shape(forms[n+1:]))
	}
	root, tree := g.next(), g.next()
	kids := Array()
	for range g.size {
		page := map[string]api.Object{"Type": name("Page"), "Resources": g.either(g.resources(forms)), "Contents": g.script(3 + g.pick(60))}
		kids.Kids = append(kids.Kids, g.set(g.next(), Entries(page)))
	}
	g.set(tree, Dict("Kids MediaBox Type", kids, Array(whole(0), whole(0), whole(612), whole(792)), name("Pages")))
	g.set(root, Dict("Pages", tree))
	return api.Doc{Items: g.items, Trailer: Dict("Root", root)}
}

// shape makes an XObject, whose forms are those that are given.
func (g *grove) shape(forms []api.Object) api.Object {
	entries := map[string]api.Object{"Subtype": g.either(name("Form")), "Type": name("XObject")}
	if g.once(4) {
		entries["Subtype"] = name("Image")
	}
	if !g.once(3) {
		entries["Resources"] = g.either(g.resources(forms))
	}
	if g.once(2) {
		list := Array()
		for range 6 {
			list.Kids = append(list.Kids, whole(g.pick(5)-1))
		}
		list.Kids[3] = api.Object{Kind: api.KReal, N: int64(g.pick(30000))}
		entries["Matrix"] = g.either(list)
	}
	if g.flawed && g.once(12) {
		key := []string{"Subtype", "Resources", "Matrix"}[g.pick(3)]
		entries[key] = g.among(api.Object{}, Ref(99, 0), name("form"), Array(whole(1)), Array(whole(1), whole(0), whole(0), whole(1), whole(0), Ref(1, 0)))
	}
	content := g.words(g.pick(12))
	if g.once(3) {
		// So that a form without resources of its own finds some.
		content = g.words(g.pick(8)) + " /X1 Do"
	}
	o := Entries(entries)
	o.Kind, o.S = api.KStream, content
	return o
}

// resources makes resources with fonts, and with the given forms, or with images where they are too few.
func (g *grove) resources(forms []api.Object) api.Object {
	fonts, objects := map[string]api.Object{}, map[string]api.Object{}
	for n := range 3 {
		fonts["F"+strconv.Itoa(n)] = g.either(g.font())
	}
	for n := range 3 {
		key := "X" + strconv.Itoa(n)
		if n < len(forms) {
			objects[key] = forms[n]
		} else {
			objects[key] = g.set(g.next(), api.Object{Kind: api.KStream, Keys: []string{"Subtype"}, Kids: []api.Object{name("Image")}})
		}
	}
	if g.flaw() {
		fonts["F0"] = g.among(api.Object{}, Ref(99, 0), name("F"), g.anything())
	}
	if g.flawed && g.once(12) {
		objects["X0"] = g.among(api.Object{}, Ref(99, 0), name("X"), g.anything())
	}
	entries := map[string]api.Object{"Font": g.either(Entries(fonts)), "XObject": g.either(Entries(objects))}
	if g.flaw() {
		entries[[]string{"Font", "XObject"}[g.pick(2)]] = g.among(api.Object{}, Ref(99, 0), name("Font"), Array(Dict("")), g.anything())
	}
	return Entries(entries)
}

// font makes a font.
func (g *grove) font() api.Object {
	entries := map[string]api.Object{"Type": name("Font"), "Subtype": name("Type1"), "BaseFont": name("N"), "FirstChar": whole(60 + g.pick(10))}
	list := Array()
	for range g.pick(40) {
		list.Kids = append(list.Kids, whole(200+g.pick(800)))
	}
	entries["Widths"] = g.either(list)
	if g.once(4) {
		text := api.Object{Kind: api.KStream, S: "1 beginbfchar <41> <00620063> endbfchar 1 beginbfrange <61><63><0030> endbfrange"}
		entries["ToUnicode"] = g.either(text)
	}
	if g.once(5) {
		kid := Dict("DW Subtype W", whole(300), name("CIDFontType2"), Array(whole(16), Array(whole(500), whole(600))))
		entries = map[string]api.Object{"Subtype": name("Type0"), "BaseFont": name("W"), "Encoding": name("Identity-H"), "DescendantFonts": Array(g.either(kid))}
		entries["ToUnicode"] = g.either(api.Object{Kind: api.KStream, S: "1 beginbfrange <4141><4145><0041> endbfrange"})
	}
	if g.flaw() {
		entries[[]string{"Subtype", "BaseFont", "ToUnicode", "Widths"}[g.pick(4)]] = g.among(whole(1), name("Font"), Ref(99, 0))
	}
	return Entries(entries)
}

// script makes a content of so many operators, whole or in pieces.
func (g *grove) script(size int) api.Object {
	list := Array()
	words := strings.Fields(g.words(size))
	for len(words) > 0 {
		n := len(words)
		if g.once(2) {
			n = 1 + g.pick(n)
		}
		list.Kids = append(list.Kids, g.either(api.Object{Kind: api.KStream, S: strings.Join(words[:n], " ")}))
		words = words[n:]
	}
	if len(list.Kids) == 1 {
		return list.Kids[0]
	}
	return list
}

// words makes the text of a content of about so many operators, each of which can follow the one before it unless there is a flaw.
func (g *grove) words(size int) string {
	var all []string
	text, path := false, false
	say := func(phrases ...string) {
		for _, word := range strings.Fields(phrases[g.pick(len(phrases))]) {
			all = append(all, g.spelt(word))
			switch word {
			case "BT", "ET":
				text = word == "BT"
			case "m", "re":
				path = true
			case "S", "s", "f", "F", "f*", "B", "B*", "b", "b*", "n":
				path = false
			}
		}
	}
	for range size {
		switch {
		case g.flaw():
			say("Q", "/X9 Do", "num Do", "/F9 num Tf BT (a) Tj ET", "BT BT", "ET", "(a) Tj", "num num l", "num num", "x", "num x", "(a) w", "-1 w", "9 J", "BT /X0 Do ET", "BT", "9999999 num Td", "BT num 999999 TD", "BT 999999 num TD", "BT [ /a ] TJ", "999999 0 (a) \"", "0 999999 (a) \"", "EI", "( w", "0 0 0 0 0 0 cm", "99999 0 0 99999 0 0 cm")
		case text:
			say("num num Td", "num num TD", "T*", "1 0 int 1 num num Tm", "str Tj", "str Tj", "str Tj", "[ str num str neg ] TJ", "str '", "num num str \"", "int Tc", "int Tw", "pos Tz", "num TL", "num Ts", "font pos Tf", "2 Tr", "q font pos Tf", "ET", "ET", "pos w", "0.5 g", "/T gs")
		case path:
			say("num num m", "num num l", "num num num num num num c", "num num num num v", "num num num num y", "h", "num num pos pos re", "W", "W*", "S", "s", "f", "F", "f*", "B", "B*", "b", "b*", "num num l S", "W n")
		default:
			say("q", "q", "1 0 0 1 num num cm", "0.5 0 0.1 0.5 num num cm", "pos w", "2 J", "1 j", "[ pos pos ] 0 d", "/R ri", "5 i", "0.3 g", "0 1 0 RG", "0 0.1 0.2 1 k", "BT font pos Tf", "BT font pos Tf", "BT font pos Tf num num Td str Tj", "num num m", "num num pos pos re", "num num pos pos re W n", "/X0 Do", "/X1 Do", "/X2 Do", "BI /W 1 ID x EI", "BX EX", "/P BMC EMC", "/C cs", "q Q", "num Tc", "S", "n")
		}
	}
	if text && !g.flaw() {
		say("ET")
	}
	return strings.Join(all, " ")
}

// spelt returns an operand in place of the word that stands for it, and any other word as it is.
func (g *grove) spelt(word string) string {
	switch word {
	case "num":
		return strconv.Itoa(g.pick(200) - 100)
	case "neg":
		return strconv.Itoa(-g.pick(2000))
	case "pos":
		return strconv.Itoa(g.pick(40)) + "." + strconv.Itoa(g.pick(10000))
	case "int":
		return strconv.Itoa(g.pick(3))
	case "font":
		return "/F" + strconv.Itoa(g.pick(3))
	case "str":
		return []string{"(AB)", "(Aa)", "(AC)", "(ab)", "<41204142>", "<41444143>", "()"}[g.pick(7)]
	}
	return word
}
