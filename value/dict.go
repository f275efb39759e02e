package value

import (
	"slices"
	"strings"

	"foliant/api"
)

// Dict returns the dictionary of the given keys and values, which alternate.
func Dict(pairs ...api.Object) (api.Object, api.Errno) {
	if len(pairs)%2 != 0 {
		return api.Object{}, api.ErrArg
	}
	entries := slices.Collect(slices.Chunk(pairs, 2))
	if slices.ContainsFunc(entries, func(pair []api.Object) bool { return pair[0].Kind != api.KName }) {
		return api.Object{}, api.ErrArg
	}
	slices.SortFunc(entries, func(a, b []api.Object) int { return strings.Compare(a[0].S, b[0].S) })
	o := api.Object{Kind: api.KDict}
	for i, pair := range entries {
		if i > 0 && entries[i-1][0].S == pair[0].S {
			return api.Object{}, api.ErrTwice
		}
		if pair[1].Kind != api.KNull {
			o.Keys = append(o.Keys, pair[0].S)
			o.Kids = append(o.Kids, Clone(pair[1]))
		}
	}
	return checked(o)
}

// Stream returns the stream with the entries of dict and the raw bytes data.
func Stream(dict api.Object, data string) (api.Object, api.Errno) {
	if dict.Kind != api.KDict {
		return api.Object{}, api.ErrKind
	}
	if e := Check(dict); e != api.OK {
		return api.Object{}, e
	}
	o := without(dict, "Length")
	o.Kind, o.S = api.KStream, data
	return checked(o)
}

// Get returns the value of a key of a dictionary or stream.
func Get(o api.Object, key string) (api.Object, bool) {
	i := slices.Index(o.Keys, key)
	if !keyed(o) || i < 0 || i >= len(o.Kids) {
		return Null(), false
	}
	return Clone(o.Kids[i]), true
}

// Set returns a dictionary or stream with a value for a key.
func Set(o api.Object, key string, v api.Object) (api.Object, api.Errno) {
	if !keyed(o) {
		return api.Object{}, api.ErrKind
	}
	if e := Check(o); e != api.OK {
		return api.Object{}, e
	}
	o = without(o, key)
	if v.Kind == api.KNull {
		return o, api.OK
	}
	at, _ := slices.BinarySearch(o.Keys, key)
	o.Keys = slices.Insert(o.Keys, at, key)
	o.Kids = slices.Insert(o.Kids, at, Clone(v))
	return checked(o)
}

// Drop returns a valid dictionary or stream without a key, and any other object as it is.
func Drop(o api.Object, key string) api.Object {
	if !keyed(o) || Check(o) != api.OK {
		return Clone(o)
	}
	return without(o, key)
}

// without returns a copy of a valid dictionary or stream, without a key.
func without(o api.Object, key string) api.Object {
	o = Clone(o)
	if i := slices.Index(o.Keys, key); i >= 0 {
		o.Keys = slices.Delete(o.Keys, i, i+1)
		o.Kids = slices.Delete(o.Kids, i, i+1)
	}
	return o
}

// checked returns o, or the error of Check.
func checked(o api.Object) (api.Object, api.Errno) {
	if e := Check(o); e != api.OK {
		return api.Object{}, e
	}
	return o, api.OK
}
