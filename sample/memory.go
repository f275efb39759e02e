package sample

import (
	"slices"
	"strconv"

	"foliant/api"
	"foliant/docs"
	"foliant/value"
)

// Copy returns an equal document that shares no memory with d.
func Copy(d api.Doc) api.Doc {
	d.Trailer = copied(d.Trailer)
	d.Items = slices.Clone(d.Items)
	for i := range d.Items {
		d.Items[i].Obj = copied(d.Items[i].Obj)
	}
	return d
}

// copied returns an equal object that shares no memory with o.
func copied(o api.Object) api.Object {
	o.Keys, o.Kids = slices.Clone(o.Keys), slices.Clone(o.Kids)
	for i := range o.Kids {
		o.Kids[i] = copied(o.Kids[i])
	}
	return o
}

// Spoil changes all that an object has in memory of its own.
func Spoil(o api.Object) {
	for i := range o.Keys {
		o.Keys[i] += "x"
	}
	for i := range o.Kids {
		Spoil(o.Kids[i])
		o.Kids[i].N++
	}
}

// SpoilDoc changes all that a document has in memory of its own.
func SpoilDoc(d api.Doc) {
	Spoil(d.Trailer)
	for i := range d.Items {
		Spoil(d.Items[i].Obj)
		d.Items[i].Num++
	}
}

// Wrong tells what is wrong with a document that was made of another one, beside an error, or "" if nothing is: it must be as wanted, valid unless there is an error, and share no memory with the other one. It is spoiled then.
func Wrong(from, got api.Doc, e api.Errno, want api.Doc, wantErr api.Errno) string {
	switch {
	case e != wantErr:
		return "error " + strconv.Itoa(int(e)) + ", not " + strconv.Itoa(int(wantErr))
	case !docs.Same(got, want):
		return "another document"
	case e == api.OK && docs.Check(got) != api.OK:
		return "not valid"
	}
	was := Copy(from)
	SpoilDoc(got)
	if !docs.Same(from, was) {
		return "shares memory"
	}
	return ""
}

// Settled reports whether no reference in a document leads to one of the items that got has beside those of the document.
func Settled(d, got api.Doc) bool {
	_, added := docs.Diff(got, d)
	for _, i := range d.Items {
		for _, num := range value.Refs(i.Obj) {
			if slices.Contains(added, num) {
				return false
			}
		}
	}
	return true
}
