// Package sample makes objects and documents for the tests of the other packages.
package sample

import (
	"strconv"
	"strings"

	"foliant/api"
)

// Bytes returns a text with each of the 256 bytes.
func Bytes() string {
	var all []byte
	for c := range 256 {
		all = append(all, byte(c))
	}
	return string(all)
}

// Array returns the array of kids.
func Array(kids ...api.Object) api.Object { return api.Object{Kind: api.KArray, Kids: kids} }

// Dict returns the dictionary in which keys, which are sorted, stand for as many kids.
func Dict(keys string, kids ...api.Object) api.Object {
	if keys == "" {
		return api.Object{Kind: api.KDict}
	}
	return api.Object{Kind: api.KDict, Keys: strings.Fields(keys), Kids: kids}
}

// Nest returns an object inside so many arrays and dictionaries.
func Nest(o api.Object, levels int) api.Object {
	for i := range levels {
		if i%3 == 2 {
			o = Dict("K", o)
		} else {
			o = Array(o)
		}
	}
	return o
}

// Wide returns an array of so many integers.
func Wide(size int) api.Object {
	o := Array()
	for i := range size {
		o.Kids = append(o.Kids, api.Object{Kind: api.KInt, N: int64(i)})
	}
	return o
}

// Broad returns a dictionary of so many keys, at most 100000.
func Broad(size int) api.Object {
	o := Dict("")
	for i := range size {
		o.Keys = append(o.Keys, "K"+strconv.Itoa(100000 + i)[1:])
		o.Kids = append(o.Kids, api.Object{Kind: api.KInt, N: int64(i)})
	}
	return o
}

// Leaves returns valid objects of all kinds that have no kids, each kind with its edges.
func Leaves() []api.Object {
	list := []api.Object{{}, {Kind: api.KBool}, {Kind: api.KBool, N: 1}, Array(), Dict("")}
	for _, n := range []int64{0, 1, -1, 7, 10, -300, api.MaxInt, -api.MaxInt} {
		list = append(list, api.Object{Kind: api.KInt, N: n})
	}
	for _, n := range []int64{0, 1, -1, 70000, 12345, -9990, api.MaxFix, -api.MaxFix} {
		list = append(list, api.Object{Kind: api.KReal, N: n})
	}
	for _, s := range []string{"", "a", "R", "a(b\\)\r\n", ">>", Bytes(), strings.Repeat("\\", api.MaxString)} {
		list = append(list, api.Object{Kind: api.KString, S: s})
	}
	for _, s := range []string{"", "A", "R", "null", "a b#/%", Bytes()[1:128], Bytes()[129:], strings.Repeat("n", api.MaxName)} {
		list = append(list, api.Object{Kind: api.KName, S: s})
	}
	for _, n := range []int64{1, 2, api.MaxNum} {
		list = append(list, api.Object{Kind: api.KRef, N: n}, api.Object{Kind: api.KRef, N: n, G: api.MaxGen})
	}
	return list
}

// Objects returns valid objects of all kinds but streams, which share no memory.
func Objects() []api.Object {
	list := Leaves()
	leaves := Leaves()
	for i, o := range leaves {
		if i > 0 {
			list = append(list, Nest(o, i%api.MaxDepth))
		}
	}
	list = append(list, Array(Leaves()...), Nest(leaves[7], api.MaxDepth-1), Nest(Array(Leaves()...), api.MaxDepth-2))
	list = append(list, Wide(api.MaxKids), Broad(api.MaxKids))
	for i := range 400 {
		m := mixer{uint32(i)}
		list = append(list, m.object(5, leaves))
	}
	return list
}

// Streams returns valid streams, which share no memory.
func Streams() []api.Object {
	var list []api.Object
	for _, s := range []string{"", "ab", "endstream endobj", "\r\nx\r", "%", Bytes(), strings.Repeat("ab\n", 500)} {
		for _, o := range []api.Object{Dict(""), Dict("A", Array(Leaves()...)), Dict("Len Type", Nest(Array(), api.MaxDepth-2), Dict(""))} {
			o.Kind, o.S = api.KStream, s
			list = append(list, o)
		}
	}
	return list
}

// mixer makes choices that look irregular and are always the same.
type mixer struct {
	n uint32
}

// pick chooses a number from 0 to below, not included.
func (m *mixer) pick(below int) int {
	m.n = m.n*1664525 + 1013904223
	return int(m.n>>8) % below
}

// object makes an object of at most so many levels.
func (m *mixer) object(levels int, leaves []api.Object) api.Object {
	kind := m.pick(4)
	if levels == 1 || kind < 2 {
		return leaves[m.pick(len(leaves))]
	}
	o := api.Object{Kind: api.KArray}
	if kind == 3 {
		o.Kind = api.KDict
	}
	for i := range m.pick(6) {
		kid := m.object(levels-1, leaves)
		if kind == 2 {
			o.Kids = append(o.Kids, kid)
		} else if kid.Kind != api.KNull {
			o.Keys = append(o.Keys, string([]byte{byte('A' + i), byte(1 + m.pick(255))}))
			o.Kids = append(o.Kids, kid)
		}
	}
	return o
}
