package sample

import "foliant/api"

// Webs returns valid documents whose items refer to one another, and to items that are not there, in many ways. They share no memory.
func Webs() []api.Doc {
	var list []api.Doc
	for n := range 200 {
		m := mixer{uint32(n)}
		list = append(list, m.web(2+m.pick(14)))
	}
	return list
}

// web makes a document of at most so many items.
func (m *mixer) web(most int) api.Doc {
	leaves := []api.Object{{}, {Kind: api.KInt, N: 7}, {Kind: api.KString, S: "s"}}
	for num := range most + 1 {
		leaves = append(leaves, Ref(num+1, 0), Ref(num+1, m.pick(2)))
	}
	root := Ref(1+m.pick(most), m.pick(2))
	d := api.Doc{Trailer: Dict("Root", root)}
	for num := 1; num <= most; num++ {
		i := api.Item{Num: num, Gen: m.pick(2) * m.pick(2), Obj: m.object(4, leaves)}
		switch {
		case num == int(root.N):
			i.Gen = root.G
			i.Obj = Dict("A B", m.object(3, leaves[3:]), Array(m.object(3, leaves)))
		case i.Obj.Kind == api.KDict && m.pick(3) == 0:
			i.Obj.Kind, i.Obj.S = api.KStream, "data"
		case i.Obj.Kind == api.KRef:
			i.Obj = Array(i.Obj)
		}
		if num == int(root.N) || m.pick(5) > 0 {
			d.Items = append(d.Items, i)
		}
	}
	if m.pick(3) == 0 {
		d.Trailer = Dict("ID Info Root", m.object(3, leaves[3:]), Ref(1+m.pick(most), 0), root)
	}
	return d
}

// Chain returns the document of so many items each of which refers to the next one, inside so many arrays and dictionaries.
func Chain(size, levels int) api.Doc {
	d := Doc(1)
	for num := 1; num <= size; num++ {
		d.Items = append(d.Items, api.Item{Num: num, Obj: Dict("Next", Nest(Ref(num+1, 0), levels))})
	}
	return d
}
