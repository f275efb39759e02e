package bundle_test

import (
	"testing"

	"foliant/api"
	"foliant/bundle"
	"foliant/value"
)

// stream returns the object stream of two objects with the given data.
func stream(first int64, data string) api.Object {
	return api.Object{Kind: api.KStream, Keys: []string{"First", "N", "Type"}, Kids: []api.Object{value.Int(first), value.Int(2), value.Name(bundle.Kind)}, S: data}
}

// Promises 21.1 and 21.2, of which package packed tests more.
func TestBundle(t *testing.T) {
	for _, c := range []struct {
		o                  api.Object
		first, second, all api.Errno
	}{
		{stream(8, "3 0 5 1 12"), api.OK, api.OK, api.OK},
		{stream(8, "3 0 5 2 1 x"), api.OK, api.ErrForm, api.ErrForm},
		{stream(8, "3 2 5 0 1 2 0 R"), api.ErrKind, api.OK, api.ErrKind},
		{stream(99, "3 0 5 1 12"), api.ErrStream, api.ErrStream, api.ErrStream},
	} {
		b, e := bundle.Open(c.o)
		if n, err := bundle.Count(c.o); n != 2 || err != api.OK || e != api.OK {
			t.Errorf("Count(%v) = %d, %d, and Open has the error %d", c.o, n, err, e)
		}
		for place, want := range []api.Errno{c.first, c.second, api.ErrRange} {
			if i, e := b.Item(place); e != want || (i.Num == 3+2*place) != (e == api.OK) {
				t.Errorf("Item %d of %v = %v, %d, want %d", place, c.o, i, e, want)
			}
		}
		if l, e := b.Items(); e != c.all || (len(l) == 2) != (e == api.OK) {
			t.Errorf("Items of %v = %v, %d, want %d", c.o, l, e, c.all)
		}
	}
	for o, want := range map[*api.Object]api.Errno{{Kind: api.KName, S: bundle.Kind}: api.ErrKind, {Kind: api.KStream}: api.ErrStream} {
		if _, e := bundle.Open(*o); e != want {
			t.Errorf("Open(%v) has the error %d, want %d", *o, e, want)
		}
	}
}
