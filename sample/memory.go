package sample

import (
	"slices"

	"foliant/api"
)

// Copy returns an equal document that shares no memory with d.
func Copy(d api.Doc) api.Doc {
	d.Trailer = copied(d.Trailer)
	d.Items = slices.Clone(d.Items)
	for i := range d.Items {
		d.Items[i].Obj = copied(d.Items[i].Obj)
	}
	return d
}

// copied returns an equal object that shares no memory with o.
func copied(o api.Object) api.Object {
	o.Keys, o.Kids = slices.Clone(o.Keys), slices.Clone(o.Kids)
	for i := range o.Kids {
		o.Kids[i] = copied(o.Kids[i])
	}
	return o
}

// Spoil changes all that an object has in memory of its own.
func Spoil(o api.Object) {
	for i := range o.Keys {
		o.Keys[i] += "x"
	}
	for i := range o.Kids {
		Spoil(o.Kids[i])
		o.Kids[i].N++
	}
}

// SpoilDoc changes all that a document has in memory of its own.
func SpoilDoc(d api.Doc) {
	Spoil(d.Trailer)
	for i := range d.Items {
		Spoil(d.Items[i].Obj)
		d.Items[i].Num++
	}
}
