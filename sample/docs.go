package sample

import "foliant/api"

// Ref returns a reference.
func Ref(num, gen int) api.Object { return api.Object{Kind: api.KRef, N: int64(num), G: gen} }

// Doc returns the document of items whose catalog has the number root and generation 0.
func Doc(root int, items ...api.Item) api.Doc {
	return api.Doc{Items: items, Trailer: Dict("Root", Ref(root, 0))}
}

// Docs returns valid documents, which share no memory.
func Docs() []api.Doc {
	catalog := func(num, gen int) api.Item {
		return api.Item{Num: num, Gen: gen, Obj: Dict("Pages Type", Ref(7, 0), api.Object{Kind: api.KName, S: "Catalog"})}
	}
	last := api.Doc{Items: []api.Item{catalog(api.MaxNum, api.MaxGen)}, Trailer: Dict("Root", Ref(api.MaxNum, api.MaxGen))}
	list := []api.Doc{Doc(1, api.Item{Num: 1, Obj: Dict("")}), last}

	full := api.Doc{Trailer: Dict("ID Info Root", Array(Leaves()...), Ref(5, 9), Ref(1, 0))}
	full.Items = append(full.Items, catalog(1, 0))
	for i, o := range append(Objects(), Streams()...) {
		if o.Kind != api.KRef {
			full.Items = append(full.Items, api.Item{Num: 2 + 3*i, Gen: i % 5, Obj: o})
		}
	}
	list = append(list, full)

	dense := Doc(4)
	for i := range api.MaxNum {
		dense.Items = append(dense.Items, api.Item{Num: i + 1, Obj: api.Object{Kind: api.KInt, N: int64(i)}})
	}
	dense.Items[3] = catalog(4, 0)
	list = append(list, dense)

	for n := range 40 {
		m := mixer{uint32(n)}
		d := Doc(3)
		leaves := Leaves()
		for num := range 20 {
			o := m.object(4, leaves)
			switch {
			case num == 3:
				d.Items = append(d.Items, catalog(num, 0))
			case num > 0 && o.Kind != api.KRef && m.pick(3) > 0:
				d.Items = append(d.Items, api.Item{Num: num, Gen: m.pick(2), Obj: o})
			}
		}
		list = append(list, d)
	}
	return list
}
