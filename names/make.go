package names

import (
	"slices"

	"foliant/api"
	"foliant/value"
)

// minFan is the least number of kids that a node must be allowed, lest the rows of nodes get no shorter.
const minFan = 2

// twig is what stands in the array of a node for one of its entries or kids, with the least and the greatest key there.
type twig struct {
	objs            []api.Object
	least, greatest string
}

// twigs returns the twigs of entries.
func twigs(l []api.Entry) []twig {
	var list []twig
	for _, e := range l {
		list = append(list, twig{[]api.Object{value.String(e.Key), e.Val}, e.Key, e.Key})
	}
	return list
}

// grown adds the nodes above a row of twigs, which stand under a key, up to fan of them each, and returns a reference to the root. A node is added by add, which returns a reference to it.
func grown(row []twig, key string, fan int, add func(o api.Object) api.Object) api.Object {
	for len(row) > fan {
		var above []twig
		for some := range slices.Chunk(row, fan) {
			least, greatest := some[0].least, some[len(some)-1].greatest
			ref := add(dict(key, some, value.String(least), value.String(greatest)))
			above = append(above, twig{[]api.Object{ref}, least, greatest})
		}
		row, key = above, kidsKey
	}
	return add(dict(key, row))
}

// dict returns the dictionary of a node with some twigs under a key, and with limits, if there are any. It is checked with the item that it becomes, and not before, since that is when its error counts.
func dict(key string, row []twig, limits ...api.Object) api.Object {
	list := api.Object{Kind: api.KArray}
	for _, t := range row {
		list.Kids = append(list.Kids, t.objs...)
	}
	o := api.Object{Kind: api.KDict, Keys: []string{key}, Kids: []api.Object{list}}
	if len(limits) > 0 {
		at, _ := slices.BinarySearch(o.Keys, limitsKey)
		o.Keys = slices.Insert(o.Keys, at, limitsKey)
		o.Kids = slices.Insert(o.Kids, at, value.Array(limits...))
	}
	return o
}
