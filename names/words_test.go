package names_test

import (
	"bytes"
	"slices"
	"testing"

	"foliant/api"
	"foliant/docs"
	"foliant/names"
	"foliant/sample"
	"foliant/value"
	"foliant/web"
)

// less reports whether a stands before b, byte by byte.
func less(a, b string) bool { return bytes.Compare([]byte(a), []byte(b)) < 0 }

// nodeOf returns the pairs or the kids of a node, and whether it is one, by the words of the chapter.
func nodeOf(d api.Doc, o api.Object) (pairs []api.Entry, kids []api.Object, ok bool) {
	o = docs.Follow(d, o)
	if o.Kind != api.KDict || slices.Contains(o.Keys, "Names") == slices.Contains(o.Keys, "Kids") {
		return nil, nil, false
	}
	if slices.Contains(o.Keys, "Kids") {
		list := docs.Path(d, o, "Kids")
		return nil, list.Kids, list.Kind == api.KArray
	}
	list := docs.Path(d, o, "Names")
	if list.Kind != api.KArray || len(list.Kids)%2 == 1 {
		return nil, nil, false
	}
	for i := range len(list.Kids) / 2 {
		key := list.Kids[2*i]
		if key.Kind != api.KString {
			return nil, nil, false
		}
		pairs = append(pairs, api.Entry{Key: key.S, Val: list.Kids[2*i+1]})
	}
	return pairs, nil, true
}

// begun returns the errors that Read and Find begin with.
func begun(d api.Doc, o api.Object) api.Errno {
	if e := docs.Check(d); e != api.OK {
		return e
	}
	if e := value.Check(o); e != api.OK {
		return e
	}
	if docs.Follow(d, o).Kind == api.KNull {
		return api.ErrNone
	}
	return api.OK
}

// read does what Read does, by the words of the chapter.
func read(d api.Doc, o api.Object) ([]api.Entry, api.Errno) {
	if e := begun(d, o); e != api.OK {
		return nil, e
	}
	var list []api.Entry
	nodes := 0
	var visit func(o api.Object, enclosing int) api.Errno
	visit = func(o api.Object, enclosing int) api.Errno {
		if enclosing == api.MaxDepth {
			return api.ErrDeep
		}
		if nodes == api.MaxTree {
			return api.ErrMany
		}
		nodes++
		pairs, kids, ok := nodeOf(d, o)
		if !ok {
			return api.ErrName
		}
		for _, e := range pairs {
			if len(list) > 0 && !less(list[len(list)-1].Key, e.Key) {
				return api.ErrName
			}
			if len(list) == api.MaxKids {
				return api.ErrMany
			}
			list = append(list, e)
		}
		for _, kid := range kids {
			if e := visit(kid, enclosing+1); e != api.OK {
				return e
			}
		}
		return api.OK
	}
	if e := visit(o, 0); e != api.OK {
		return nil, e
	}
	return list, api.OK
}

// limits returns the limits of a node, and whether it has some.
func limits(d api.Doc, o api.Object) (string, string, bool) {
	o = docs.Follow(d, o)
	l := docs.Path(d, o, "Limits")
	if o.Kind != api.KDict || l.Kind != api.KArray || len(l.Kids) != 2 || l.Kids[0].Kind != api.KString || l.Kids[1].Kind != api.KString {
		return "", "", false
	}
	return l.Kids[0].S, l.Kids[1].S, true
}

// find does what Find does, by the words of the chapter.
func find(d api.Doc, o api.Object, key string) (api.Object, api.Errno) {
	if e := begun(d, o); e != api.OK {
		return api.Object{}, e
	}
	var descend func(o api.Object, enclosing int) (api.Object, api.Errno)
	descend = func(o api.Object, enclosing int) (api.Object, api.Errno) {
		if enclosing == api.MaxDepth {
			return api.Object{}, api.ErrDeep
		}
		pairs, kids, ok := nodeOf(d, o)
		if !ok {
			return api.Object{}, api.ErrName
		}
		for _, e := range pairs {
			if e.Key == key {
				return e.Val, api.OK
			}
		}
		for _, kid := range kids {
			least, greatest, ok := limits(d, kid)
			if !ok {
				return api.Object{}, api.ErrName
			}
			if !less(key, least) && !less(greatest, key) {
				return descend(kid, enclosing+1)
			}
		}
		return api.Object{}, api.ErrNone
	}
	return descend(o, 0)
}

// branch is a node of a tree that is made, with the least and the greatest key below it.
type branch struct {
	ref             api.Object
	least, greatest string
}

// refused returns the error of Make for its arguments.
func refused(d api.Doc, l []api.Entry, fan int) api.Errno {
	if e := docs.Check(d); e != api.OK {
		return e
	}
	if fan < 2 || fan > api.MaxFan {
		return api.ErrArg
	}
	if len(l) > api.MaxKids {
		return api.ErrMany
	}
	for i, e := range l {
		if len(e.Key) > api.MaxString {
			return api.ErrLong
		}
		if e := value.Check(e.Val); e != api.OK {
			return e
		}
		if e.Val.Kind == api.KStream {
			return api.ErrKind
		}
		if i > 0 && !less(l[i-1].Key, e.Key) {
			return api.ErrArg
		}
	}
	nodes := 1
	for n := len(l); n > fan; {
		n = (n + fan - 1) / fan
		nodes += n
	}
	if nodes > api.MaxTree {
		return api.ErrMany
	}
	return api.OK
}

// grow does what Make does, by the words of the chapter, one node after the other.
func grow(d api.Doc, l []api.Entry, fan int) (api.Doc, api.Object, api.Errno) {
	if e := refused(d, l, fan); e != api.OK {
		return api.Doc{}, api.Object{}, e
	}
	var failed api.Errno
	add := func(entries map[string]api.Object) api.Object {
		if failed != api.OK {
			return api.Object{}
		}
		more, num, e := docs.Add(d, sample.Entries(entries))
		if e != api.OK {
			failed = e
			return api.Object{}
		}
		d = more
		return value.Ref(num, 0)
	}
	array := func(l []api.Entry) api.Object {
		list := value.Array()
		for _, e := range l {
			list.Kids = append(list.Kids, value.String(e.Key), e.Val)
		}
		return list
	}
	if len(l) <= fan {
		root := add(map[string]api.Object{"Names": array(l)})
		return result(d, root, failed)
	}
	limits := func(least, greatest string) api.Object {
		return value.Array(value.String(least), value.String(greatest))
	}
	var level []branch
	for len(l) > 0 {
		n := min(fan, len(l))
		least, greatest := l[0].Key, l[n-1].Key
		level = append(level, branch{add(map[string]api.Object{"Names": array(l[:n]), "Limits": limits(least, greatest)}), least, greatest})
		l = l[n:]
	}
	refs := func(level []branch) api.Object {
		list := value.Array()
		for _, b := range level {
			list.Kids = append(list.Kids, b.ref)
		}
		return list
	}
	for len(level) > fan {
		var above []branch
		for len(level) > 0 {
			n := min(fan, len(level))
			least, greatest := level[0].least, level[n-1].greatest
			above = append(above, branch{add(map[string]api.Object{"Kids": refs(level[:n]), "Limits": limits(least, greatest)}), least, greatest})
			level = level[n:]
		}
		level = above
	}
	root := add(map[string]api.Object{"Kids": refs(level)})
	return result(d, root, failed)
}

// result returns a document and a reference, or nothing beside an error.
func result(d api.Doc, root api.Object, e api.Errno) (api.Doc, api.Object, api.Errno) {
	if e != api.OK {
		return api.Doc{}, api.Object{}, e
	}
	return d, root, api.OK
}

// roots returns objects that are roots of name trees in d, or are not.
func roots(d api.Doc) []api.Object {
	dests, _ := value.Get(docs.Path(d, d.Trailer, "Root", "Names"), "Dests")
	list := []api.Object{dests, docs.Follow(d, dests), d.Trailer, value.Null(), value.String("a"), value.Ref(99, 0)}
	for _, i := range d.Items {
		list = append(list, value.Ref(i.Num, i.Gen))
		if len(list) > 30 {
			break
		}
	}
	return list
}

// Promises 37.1 and 37.2, by the words of the chapter.
func TestReadAndFindByTheWords(t *testing.T) {
	errs, found := map[api.Errno]int{}, map[api.Errno]int{}
	for _, d := range slices.Concat(sample.Books(), sample.Webs(), sample.Docs()[:2]) {
		was := sample.Copy(d)
		for i, o := range roots(d) {
			want, wantErr := read(d, o)
			got, e := names.Read(d, o)
			if !sameEntries(got, want) || e != wantErr {
				t.Errorf("Read(%s, %s) = %s, %d, want %s, %d", brief(d), brief(o), brief(got), e, brief(want), wantErr)
			}
			spoil(got)
			if i == 0 {
				errs[e]++
			}
			for n, key := range append(sample.Keys(), "f", "\x00\x00") {
				if i > 1 && (i+n)%8 > 0 {
					continue
				}
				want, wantErr := find(d, o, key)
				got, e := names.Find(d, o, key)
				if !value.Same(got, want) || e != wantErr {
					t.Errorf("Find(%s, %s, %q) = %s, %d, want %s, %d", brief(d), brief(o), key, brief(got), e, brief(want), wantErr)
				}
				if o, e := names.Lookup(web.Of(d), o, key); !value.Same(o, want) || e != wantErr {
					t.Errorf("Lookup(%s, %s, %q) = %s, %d, want %s, %d", brief(d), brief(o), key, brief(o), e, brief(want), wantErr)
				}
				sample.Spoil(got)
				if i == 0 {
					found[e]++
				}
			}
		}
		if !docs.Same(d, was) {
			t.Errorf("the document has changed: %s", brief(was))
		}
	}
	if errs[api.OK] < 300 || errs[api.ErrName] < 50 || errs[api.ErrNone] < 50 {
		t.Errorf("the errors of the trees are %v", errs)
	}
	if found[api.OK] < 1000 || found[api.ErrName] < 500 || found[api.ErrNone] < 1000 {
		t.Errorf("the errors of the keys are %v", found)
	}
}

// Promises 37.3 and 37.5, by the words of the chapter.
func TestMakeByTheWords(t *testing.T) {
	list := sample.Objects()
	at := 0
	for n, d := range slices.Concat(sample.Webs(), sample.Books()[:100], sample.Docs()) {
		var l []api.Entry
		for _, key := range sample.Keys()[n%3:] {
			l = append(l, api.Entry{Key: key, Val: list[at%len(list)]})
			if at++; at%7 == 0 {
				break
			}
		}
		for fan := 2; fan < 6; fan++ {
			want, wantRoot, wantErr := grow(d, l, fan)
			got, root, e := names.Make(d, l, fan)
			if !value.Same(root, wantRoot) {
				t.Errorf("the root that Make(%s, %s, %d) has made is %v, not %v", brief(d), brief(l), fan, root, wantRoot)
			}
			if e == api.OK {
				holds(t, d, got, root, l)
			}
			before := copied(l)
			if wrong := sample.Wrong(d, got, e, want, wantErr); wrong != "" {
				t.Errorf("Make(%s, %s, %d) is wrong: %s", brief(d), brief(l), fan, wrong)
			}
			if !sameEntries(l, before) {
				t.Errorf("Make shares memory with the entries %s", brief(before))
			}
		}
	}
}

// holds checks promise 37.5 for a tree that was made of entries.
func holds(t *testing.T, d, got api.Doc, root api.Object, l []api.Entry) {
	t.Helper()
	if back, e := names.Read(got, root); !sameEntries(back, l) || e != api.OK {
		t.Errorf("Read(%s, %v) = %s, %d, want %s", brief(got), root, brief(back), e, brief(l))
	}
	for _, key := range append(sample.Keys(), "f", "\x00\x00") {
		at := slices.IndexFunc(l, func(e api.Entry) bool { return e.Key == key })
		o, e := names.Find(got, root, key)
		if at < 0 && e != api.ErrNone || at >= 0 && (e != api.OK || !value.Same(o, l[at].Val)) {
			t.Errorf("Find(%s, %v, %q) = %s, %d", brief(got), root, key, brief(o), e)
		}
	}
	if len(got.Items) <= len(d.Items) || !docs.Same(api.Doc{Items: got.Items[:len(d.Items)], Trailer: got.Trailer}, d) {
		t.Errorf("Make(%s) has changed what was there: %s", brief(d), brief(got))
	}
}
