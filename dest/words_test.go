package dest_test

import (
	"slices"
	"strings"
	"testing"

	"foliant/api"
	"foliant/catalog"
	"foliant/dest"
	"foliant/docs"
	"foliant/names"
	"foliant/pages"
	"foliant/sample"
	"foliant/value"
)

// numbers returns the kind that has a name, and where its numbers stand in a destination, by the words of the chapter.
func numbers(x *api.Dest, name string) (int, []*int64) {
	switch name {
	case "XYZ":
		return api.DestXYZ, []*int64{&x.X, &x.Y, &x.Z}
	case "Fit":
		return api.DestFit, nil
	case "FitH":
		return api.DestFitH, []*int64{&x.Y}
	case "FitV":
		return api.DestFitV, []*int64{&x.X}
	case "FitR":
		return api.DestFitR, []*int64{&x.X, &x.Y, &x.Z, &x.W}
	}
	return 0, nil
}

// shown returns the destination that an object which is no name resolves to.
func shown(d api.Doc, o api.Object) (api.Dest, api.Errno) {
	o = docs.Follow(d, o)
	if o.Kind == api.KDict {
		o = docs.Path(d, o, "D")
	}
	if o.Kind != api.KArray {
		return api.Dest{}, api.ErrKind
	}
	if len(o.Kids) < 2 || o.Kids[0].Kind != api.KRef || o.Kids[1].Kind != api.KName {
		return api.Dest{}, api.ErrForm
	}
	x := api.Dest{}
	kind, places := numbers(&x, o.Kids[1].S)
	if kind == 0 || len(o.Kids)-2 != len(places) {
		return api.Dest{}, api.ErrForm
	}
	x.Kind = kind
	for i, place := range places {
		number := docs.Follow(d, o.Kids[2+i])
		n, ok := value.Number(number)
		if !ok && number.Kind != api.KNull {
			return api.Dest{}, api.ErrForm
		}
		*place = n
	}
	if _, e := pages.List(d); e != api.OK {
		return api.Dest{}, e
	}
	i, ok := docs.Get(d, int(o.Kids[0].N))
	at, isPage := pages.Place(d, i.Num)
	if !ok || i.Gen != o.Kids[0].G || !isPage {
		return api.Dest{}, api.ErrNone
	}
	x.Page = at
	return x, api.OK
}

// path leads from the catalog.
func path(d api.Doc, keys ...string) api.Object {
	return docs.Path(d, docs.Path(d, d.Trailer, "Root"), keys...)
}

// named does what Named does, by the words of the chapter.
func named(d api.Doc, name string) (api.Dest, api.Errno) {
	if e := docs.Check(d); e != api.OK {
		return api.Dest{}, e
	}
	found := false
	var o api.Object
	if tree := path(d, "Names", "Dests"); tree.Kind != api.KNull {
		v, e := names.Find(d, tree, name)
		if e != api.OK && e != api.ErrNone {
			return api.Dest{}, e
		}
		o, found = v, e == api.OK
	}
	if !found || o.Kind == api.KNull {
		dests := path(d, "Dests")
		o, found = value.Get(dests, name)
		if dests.Kind != api.KDict || !found {
			return api.Dest{}, api.ErrNone
		}
	}
	return shown(d, o)
}

// read does what Read does, by the words of the chapter.
func read(d api.Doc, o api.Object) (api.Dest, api.Errno) {
	if e := docs.Check(d); e != api.OK {
		return api.Dest{}, e
	}
	if e := value.Check(o); e != api.OK {
		return api.Dest{}, e
	}
	if o := docs.Follow(d, o); o.Kind == api.KName || o.Kind == api.KString {
		return named(d, o.S)
	}
	return shown(d, o)
}

// made does what Make does, by the words of the chapter.
func made(d api.Doc, x api.Dest) (api.Object, api.Errno) {
	if e := docs.Check(d); e != api.OK {
		return api.Object{}, e
	}
	names := []string{"", "XYZ", "Fit", "FitH", "FitV", "FitR"}
	if x.Kind < 1 || x.Kind > 5 {
		return api.Object{}, api.ErrKind
	}
	for _, n := range []int64{x.X, x.Y, x.Z, x.W} {
		if n < -api.MaxFix || n > api.MaxFix {
			return api.Object{}, api.ErrRange
		}
	}
	_, has := numbers(&x, names[x.Kind])
	for _, place := range []*int64{&x.X, &x.Y, &x.Z, &x.W} {
		if *place != 0 && !slices.Contains(has, place) {
			return api.Object{}, api.ErrArg
		}
	}
	list, e := pages.List(d)
	if e != api.OK {
		return api.Object{}, e
	}
	if x.Page < 0 || x.Page >= len(list) {
		return api.Object{}, api.ErrRange
	}
	i, _ := docs.Get(d, list[x.Page].Num)
	o := value.Array(value.Ref(i.Num, i.Gen), value.Name(names[x.Kind]))
	for _, place := range has {
		n := value.Real(*place)
		if *place/api.One*api.One == *place {
			n = value.Int(*place / api.One)
		}
		o.Kids = append(o.Kids, n)
	}
	return o, api.OK
}

// setNamed does what SetNamed does, by the words of the chapter.
func setNamed(d api.Doc, name string, x api.Dest) (api.Doc, api.Errno) {
	o, e := made(d, x)
	if e != api.OK {
		return api.Doc{}, e
	}
	if len(name) > api.MaxText {
		return api.Doc{}, api.ErrLong
	}
	var l []api.Entry
	if tree := path(d, "Names", "Dests"); tree.Kind != api.KNull {
		if l, e = names.Read(d, tree); e != api.OK {
			return api.Doc{}, e
		}
	}
	more, root, e := names.Make(d, names.Set(l, name, o), api.MaxFan)
	if e != api.OK {
		return api.Doc{}, e
	}
	dict := path(d, "Names")
	if dict.Kind != api.KDict {
		dict = sample.Dict("")
	}
	if dict, e = value.Set(dict, "Dests", root); e != api.OK {
		return api.Doc{}, e
	}
	return catalog.SetRoot(more, "Names", dict)
}

// list does what List does, by the words of the chapter.
func list(d api.Doc) ([]string, api.Errno) {
	if e := docs.Check(d); e != api.OK {
		return nil, e
	}
	met := map[string]bool{}
	if tree := path(d, "Names", "Dests"); tree.Kind != api.KNull {
		l, e := names.Read(d, tree)
		if e != api.OK {
			return nil, e
		}
		for _, e := range l {
			met[e.Key] = true
		}
	}
	if dests := path(d, "Dests"); dests.Kind == api.KDict {
		for _, key := range dests.Keys {
			met[key] = true
		}
	}
	var all []string
	for key := range met {
		all = append(all, key)
	}
	slices.Sort(all)
	return all, api.OK
}

// books returns the documents that the words of the chapter are tried on.
func books() []api.Doc {
	return slices.Concat(sample.Books(), sample.Trees()[:100], sample.Webs(), sample.Docs()[:3])
}

// objects returns objects of d that are destinations, or are not.
func objects(d api.Doc) []api.Object {
	l := []api.Object{value.Null(), value.Name("A"), value.String("a"), value.Name("nothing"), value.Int(7), value.Ref(99, 0)}
	var visit func(o api.Object)
	visit = func(o api.Object) {
		if o.Kind == api.KArray && len(o.Kids) > 0 || o.Kind == api.KDict {
			l = append(l, o)
		}
		for _, kid := range o.Kids {
			visit(kid)
		}
	}
	for _, i := range d.Items {
		if len(l) < 60 {
			l = append(l, value.Ref(i.Num, i.Gen))
			visit(i.Obj)
		}
	}
	return l
}

// Promises 39.1 and 39.3, by the words of the chapter.
func TestReadByTheWords(t *testing.T) {
	errs, found := map[api.Errno]int{}, map[api.Errno]int{}
	for _, d := range books() {
		was := sample.Copy(d)
		for _, name := range append(sample.Keys(), "f") {
			want, wantErr := named(d, name)
			got, e := dest.Named(d, name)
			if got != want || e != wantErr {
				t.Errorf("Named(%s, %q) = %v, %d, want %v, %d", brief(d), name, got, e, want, wantErr)
			}
			found[e]++
		}
		b := dest.Of(d)
		for _, o := range objects(d) {
			want, wantErr := read(d, o)
			got, e := dest.Read(d, o)
			if got != want || e != wantErr {
				t.Errorf("Read(%s, %s) = %v, %d, want %v, %d", brief(d), brief(o), got, e, want, wantErr)
			}
			if x, e := b.Read(o); x != want || e != wantErr {
				t.Errorf("Read(%s, %s) of a book = %v, %d, want %v, %d", brief(d), brief(o), x, e, want, wantErr)
			}
			errs[e]++
		}
		if !docs.Same(d, was) {
			t.Errorf("the document has changed: %s", brief(was))
		}
	}
	for _, e := range []api.Errno{api.OK, api.ErrKind, api.ErrForm, api.ErrNone, api.ErrPage} {
		if errs[e] < 200 || found[e] < 20 {
			t.Errorf("the errors of objects are %v, and of names %v", errs, found)
		}
	}
	if found[api.ErrName] < 20 {
		t.Errorf("the errors of names are %v", found)
	}
}

// picked returns a destination that looks irregular, and now and then can't be made.
func picked(seed *uint32, most int) api.Dest {
	pick := func(below int) int {
		*seed = *seed*1664525 + 1013904223
		return int(*seed>>8) % below
	}
	x := api.Dest{Page: pick(most+2) - 1, Kind: pick(5) + 1}
	if pick(12) == 0 {
		x.Kind = []int{0, -1, 6}[pick(3)]
	}
	_, has := numbers(&x, []string{"", "XYZ", "Fit", "FitH", "FitV", "FitR", ""}[max(x.Kind, 0)])
	if pick(9) == 0 {
		has = append(has, &x.W, &x.X)
	}
	for _, place := range has {
		*place = []int64{0, 1, -10000, 25000, 120000, api.MaxFix, -api.MaxFix, 3*api.One + 1}[pick(8)]
	}
	if pick(12) == 0 {
		*[]*int64{&x.X, &x.Y, &x.Z, &x.W}[pick(4)] = []int64{api.MaxFix + 1, -api.MaxFix - 1}[pick(2)]
	}
	return x
}

// Promises 39.2 and 39.5, by the words of the chapter.
func TestMakeByTheWords(t *testing.T) {
	errs := map[api.Errno]int{}
	seed := uint32(39)
	for _, d := range books() {
		n, _ := pages.Count(d)
		b := dest.Of(d)
		for range 6 {
			x := picked(&seed, n)
			want, wantErr := made(d, x)
			got, e := dest.Make(d, x)
			if !value.Same(got, want) || e != wantErr {
				t.Errorf("Make(%s, %v) = %v, %d, want %v, %d", brief(d), x, got, e, want, wantErr)
			}
			if o, e := b.Make(x); !value.Same(o, want) || e != wantErr {
				t.Errorf("Make(%s, %v) of a book = %v, %d, want %v, %d", brief(d), x, o, e, want, wantErr)
			}
			if back, readErr := dest.Read(d, got); e == api.OK && (back != x || readErr != api.OK) {
				t.Errorf("Read(%s, %v) = %v, %d, want %v", brief(d), got, back, readErr, x)
			}
			errs[e]++
		}
	}
	for _, e := range []api.Errno{api.OK, api.ErrKind, api.ErrRange, api.ErrArg, api.ErrPage} {
		if errs[e] < 100 {
			t.Errorf("the errors are %v", errs)
		}
	}
}

// Promises 39.4 and 39.5, by the words of the chapter.
func TestSetNamedByTheWords(t *testing.T) {
	errs := map[api.Errno]int{}
	seed := uint32(40)
	for n, d := range books() {
		want, wantErr := list(d)
		if got, e := dest.List(d); !slices.Equal(got, want) || e != wantErr {
			t.Errorf("List(%s) = %q, %d, want %q, %d", brief(d), got, e, want, wantErr)
		}
		count, _ := pages.Count(d)
		x := picked(&seed, count)
		for range 3 {
			if _, e := made(d, x); e != api.OK {
				x = picked(&seed, count)
			}
		}
		name := append(sample.Keys(), "f", strings.Repeat("n", api.MaxText), strings.Repeat("n", api.MaxText+1))[n%17]
		wantDoc, wantErr := setNamed(d, name, x)
		got, e := dest.SetNamed(d, name, x)
		errs[e]++
		if e == api.OK && sample.Settled(d, got) {
			follows(t, d, got, name, x)
			errs[-1]++
		}
		if wrong := sample.Wrong(d, got, e, wantDoc, wantErr); wrong != "" {
			t.Errorf("SetNamed(%s, %q, %v) is wrong: %s", brief(d), name, x, wrong)
		}
	}
	for _, e := range []api.Errno{-1, api.OK, api.ErrLong, api.ErrRange, api.ErrName} {
		if errs[e] < 4 || errs[-1] < 200 {
			t.Errorf("the errors are %v", errs)
		}
	}
}

// sought reports whether a name is found in the tree of d if and only if it is there, which wrong limits can prevent.
func sought(d api.Doc, name string) bool {
	tree := path(d, "Names", "Dests")
	l, _ := names.Read(d, tree)
	at := slices.IndexFunc(l, func(e api.Entry) bool { return e.Key == name })
	o, e := names.Find(d, tree, name)
	return at < 0 && e == api.ErrNone || at >= 0 && e == api.OK && value.Same(o, l[at].Val)
}

// follows checks promise 39.5 for a name that was set.
func follows(t *testing.T, d, got api.Doc, name string, x api.Dest) {
	t.Helper()
	before, _ := dest.List(d)
	before = append(before, name)
	slices.Sort(before)
	if after, e := dest.List(got); e != api.OK || !slices.Equal(after, slices.Compact(before)) {
		t.Errorf("List(%s) = %q, %d, want %q", brief(got), after, e, before)
	}
	if back, e := dest.Named(got, name); back != x || e != api.OK {
		t.Errorf("Named(%s, %q) = %v, %d, want %v", brief(got), name, back, e, x)
	}
	for _, other := range append(sample.Keys(), "f") {
		want, wantErr := dest.Named(d, other)
		if x, e := dest.Named(got, other); other != name && sought(d, other) && (x != want || e != wantErr) {
			t.Errorf("Named(%s, %q) = %v, %d, want %v, %d", brief(got), other, x, e, want, wantErr)
		}
	}
}
