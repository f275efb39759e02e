package docs

import (
	"foliant/api"
	"foliant/value"
)

// checkItem returns the first error of an item, before which there is one with the number last.
func checkItem(i api.Item, last int) api.Errno {
	if i.Num < 1 || i.Num > api.MaxNum || i.Gen < 0 || i.Gen > api.MaxGen {
		return api.ErrRange
	}
	if i.Num <= last {
		return api.ErrTwice
	}
	if e := value.Check(i.Obj); e != api.OK {
		return e
	}
	if i.Obj.Kind == api.KRef || container(i.Obj) {
		return api.ErrKind
	}
	return api.OK
}

// container reports whether o is a stream that holds objects or cross references of a file.
func container(o api.Object) bool {
	if o.Kind != api.KStream {
		return false
	}
	t, _ := value.Get(o, "Type")
	return t.Kind == api.KName && (t.S == "ObjStm" || t.S == "XRef")
}

// checkTrailer returns the first error of the trailer of a document whose items are valid.
func checkTrailer(d api.Doc) api.Errno {
	if e := value.Check(d.Trailer); e != api.OK {
		return e
	}
	if d.Trailer.Kind != api.KDict {
		return api.ErrKind
	}
	for _, key := range d.Trailer.Keys {
		if !allowed(key) {
			return api.ErrForm
		}
	}
	root, _ := value.Get(d.Trailer, "Root")
	if root.Kind != api.KRef || resolved(d, root).Kind != api.KDict {
		return api.ErrTrail
	}
	return api.OK
}

// allowed reports whether the trailer of a document may have the key.
func allowed(key string) bool { return key == "ID" || key == "Info" || key == "Root" }
