package filter

import (
	"slices"

	"foliant/api"
	"foliant/give"
	"foliant/predict"
	"foliant/value"
)

const (
	filterKey = "Filter"
	parmsKey  = "DecodeParms"
	bitsKey   = "BitsPerComponent"

	bits = 8 // the only number of them that the predictors can deal with
)

// list has the full names of filters, and their parameters.
type list struct {
	names []string
	parms []api.Parms
}

// defaults returns the default parameters.
func defaults() api.Parms { return api.Parms{Predictor: 1, Colors: 1, Columns: 1} }

// listOf returns the filters of a stream, or gives up.
func listOf(o api.Object) list {
	if o.Kind != api.KStream {
		give.Up(api.ErrKind)
	}
	l := list{names: fullNames(namesOf(o))}
	l.parms = parmsOf(o, len(l.names))
	for _, p := range l.parms {
		give.UpOn(predict.Check(p))
	}
	return l
}

// namesOf returns the names at the key Filter.
func namesOf(o api.Object) []string {
	var names []string
	for _, v := range elements(o, filterKey, api.KName) {
		if v.Kind != api.KName {
			give.Up(api.ErrKind)
		}
		names = append(names, v.S)
	}
	return names
}

// elements returns the elements of the array at a key, or the object of the given kind that stands there without an array.
func elements(o api.Object, key string, kind int) []api.Object {
	v, ok := value.Get(o, key)
	switch {
	case !ok:
		return nil
	case v.Kind == api.KArray:
		return v.Kids
	case v.Kind != kind:
		give.Up(api.ErrKind)
	}
	return []api.Object{v}
}

// fullNames returns the full names of filters, or gives up if they are too many or one is unknown.
func fullNames(names []string) []string {
	if len(names) > api.MaxFilter {
		give.Up(api.ErrMany)
	}
	full := make([]string, len(names))
	for i, name := range names {
		full[i] = known(name).name
	}
	return full
}

// parmsOf returns the parameters of n filters, which the key DecodeParms tells.
func parmsOf(o api.Object, n int) []api.Parms {
	entries := elements(o, parmsKey, api.KDict)
	var parms []api.Parms
	for _, entry := range entries {
		parms = append(parms, parmsIn(entry))
	}
	if len(parms) > n || slices.ContainsFunc(entries, otherBits) {
		give.Up(api.ErrArg)
	}
	return append(parms, slices.Repeat([]api.Parms{defaults()}, n-len(parms))...)
}

// parmsIn returns the parameters in a dictionary, or the default ones that null stands for.
func parmsIn(o api.Object) api.Parms {
	switch o.Kind {
	case api.KNull:
		return defaults()
	case api.KDict:
		return api.Parms{Predictor: number(o, "Predictor"), Colors: number(o, "Colors"), Columns: number(o, "Columns")}
	}
	give.Up(api.ErrKind)
	return api.Parms{}
}

// number returns the integer at a key, or 1 if there is none.
func number(o api.Object, key string) int {
	v, ok := value.Get(o, key)
	if !ok {
		return 1
	}
	if v.Kind != api.KInt {
		give.Up(api.ErrKind)
	}
	return int(v.N)
}

// otherBits reports whether a dictionary tells a number of bits that the predictors can't deal with.
func otherBits(o api.Object) bool {
	v, ok := value.Get(o, bitsKey)
	return ok && (v.Kind != api.KInt || v.N != bits)
}

// listFrom returns the list of the named filters with their parameters, all of them the default ones if none are given, or gives up.
func listFrom(names []string, parms []api.Parms) list {
	l := list{names: fullNames(names), parms: parms}
	if len(parms) == 0 {
		l.parms = slices.Repeat([]api.Parms{defaults()}, len(names))
	}
	if len(l.parms) != len(names) {
		give.Up(api.ErrArg)
	}
	for i, p := range l.parms {
		if l.names[i] != flateName && p != defaults() {
			give.Up(api.ErrArg)
		}
	}
	return l
}

// filterValue returns what the key Filter has for the list.
func (l list) filterValue() api.Object {
	switch len(l.names) {
	case 0:
		return value.Null()
	case 1:
		return value.Name(l.names[0])
	}
	var kids []api.Object
	for _, name := range l.names {
		kids = append(kids, value.Name(name))
	}
	return value.Array(kids...)
}

// parmsValue returns what the key DecodeParms has for the list.
func (l list) parmsValue() api.Object {
	if !slices.ContainsFunc(l.parms, func(p api.Parms) bool { return p != defaults() }) {
		return value.Null()
	}
	if len(l.parms) == 1 {
		return dictOf(l.parms[0])
	}
	var kids []api.Object
	for _, p := range l.parms {
		if p == defaults() {
			kids = append(kids, value.Null())
		} else {
			kids = append(kids, dictOf(p))
		}
	}
	return value.Array(kids...)
}

// dictOf returns the dictionary of parameters.
func dictOf(p api.Parms) api.Object {
	return give.Value(value.Dict(
		value.Name("Colors"), value.Int(int64(p.Colors)),
		value.Name("Columns"), value.Int(int64(p.Columns)),
		value.Name("Predictor"), value.Int(int64(p.Predictor)),
	))
}
