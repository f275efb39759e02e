package audit

import (
	"foliant/api"
	"foliant/docs"
	"foliant/draw"
	"foliant/field"
	"foliant/filter"
	"foliant/names"
)

// teller takes in an error that something with the number num has, unless it is OK.
type teller func(kind, num int, e api.Errno)

// check tells the defects of one sort that a valid document has.
type check func(d api.Doc, tell teller)

// found returns the defects of a valid document that the checks tell, one check after the other.
func found(d api.Doc, checks ...check) []api.Finding {
	var l []api.Finding
	for _, c := range checks {
		c(d, func(kind, num int, e api.Errno) {
			if e != api.OK {
				l = append(l, api.Finding{Kind: kind, Num: num, Err: e})
			}
		})
	}
	return l
}

// listed returns the check for the numbers that list returns.
func listed(kind int, list func(d api.Doc) []int) check {
	return func(d api.Doc, tell teller) {
		for _, num := range list(d) {
			tell(kind, num, api.ErrNone)
		}
	}
}

// streams tells the errors of streams that can't be decoded.
func streams(d api.Doc, tell teller) {
	for _, i := range d.Items {
		if i.Obj.Kind == api.KStream {
			_, e := filter.Decode(i.Obj)
			tell(api.FindFilter, i.Num, e)
		}
	}
}

// dests tells the error of the named destinations.
func dests(d api.Doc, tell teller) {
	o := docs.Path(d, d.Trailer, "Root", "Names", "Dests")
	if o.Kind != api.KNull {
		_, e := names.Read(d, o)
		tell(api.FindName, 0, e)
	}
}

// contents returns the check for the contents of pages, all that there are, or none if they can't be listed.
func contents(l []api.Page) check {
	return func(d api.Doc, tell teller) {
		if len(l) == 0 {
			return
		}
		n := 0
		for _, e := range draw.Each(d) {
			tell(api.FindOps, l[n].Num, e)
			n++
		}
	}
}

// form tells the error of the form fields.
func form(d api.Doc, tell teller) {
	_, e := field.Read(d)
	tell(api.FindField, 0, e)
}
