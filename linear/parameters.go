package linear

import (
	"strconv"
	"strings"

	"foliant/api"
	"foliant/body"
	"foliant/give"
	"foliant/head"
	"foliant/octet"
	"foliant/plain"
	"foliant/value"
)

const (
	// width is how many digits the numbers have that are not known before the file is written.
	width = 10
	// stand is a number of so many digits, which is greater than any of those.
	stand = 1000000000
	// version is the value of Linearized.
	version = 1
)

// padded returns a number in as many digits as there are in all its places.
func padded(n int) string { return plain.Pad(n, width) }

// parameters returns the text of the parameters of a file with the given layout.
func parameters(l api.Layout) string {
	numbers := [...]int{l.Length, l.Hints, l.Size, l.End, l.Main}
	var stands [len(numbers)]api.Object
	for i := range numbers {
		stands[i] = value.Int(int64(stand + i))
	}
	o := give.Value(value.Dict(
		value.Name("Linearized"), value.Int(version),
		value.Name("L"), stands[0],
		value.Name("H"), value.Array(stands[1], stands[2]),
		value.Name("O"), value.Int(int64(l.First)),
		value.Name("E"), stands[3],
		value.Name("N"), value.Int(int64(l.Pages)),
		value.Name("T"), stands[4]))
	text := give.Value(body.Text(api.Item{Num: own, Obj: o}))
	for i, n := range numbers {
		text = strings.Replace(text, strconv.Itoa(stand+i), padded(n), 1)
	}
	return text
}

// read returns the layout that a file tells of itself, and the offset after its parameters.
func read(s string) (api.Layout, int, api.Errno) {
	if len(s) > api.MaxFile {
		return api.Layout{}, 0, api.ErrLong
	}
	if _, _, e := head.Version(s); e != api.OK {
		return api.Layout{}, 0, e
	}
	line := octet.Line(s, octet.Find(s, "%PDF-", 0))
	i, next, e := body.Read(s, octet.Skip(s, line), -1)
	if e != api.OK {
		return api.Layout{}, 0, e
	}
	l, ok := layoutOf(i.Obj)
	if !ok || l.Length != len(s) || max(l.Hints, l.End, l.Main) > len(s) {
		return api.Layout{}, 0, api.ErrHint
	}
	return l, next, api.OK
}

// layoutOf returns the layout that parameters tell, and whether they have the form for that.
func layoutOf(o api.Object) (api.Layout, bool) {
	get := func(key string) api.Object {
		v, _ := value.Get(o, key)
		return v
	}
	hints := get("H")
	if o.Kind != api.KDict || !value.Same(get("Linearized"), value.Int(version)) || hints.Kind != api.KArray || len(hints.Kids) != 2 {
		return api.Layout{}, false
	}
	told := [...]api.Object{get("L"), hints.Kids[0], hints.Kids[1], get("O"), get("E"), get("N"), get("T")}
	var n [len(told)]int
	for i, v := range told {
		if v.Kind != api.KInt || v.N < 0 {
			return api.Layout{}, false
		}
		n[i] = int(v.N)
	}
	return api.Layout{Length: n[0], Hints: n[1], Size: n[2], First: n[3], End: n[4], Pages: n[5], Main: n[6]}, true
}
