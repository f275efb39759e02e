package annot_test

import (
	"slices"
	"testing"

	"foliant/annot"
	"foliant/api"
	"foliant/dest"
	"foliant/docs"
	"foliant/pages"
	"foliant/sample"
	"foliant/value"
)

// found returns the item of a page, and the elements of its array of annotations, by the words of the chapter.
func found(d api.Doc, page int) (api.Item, []api.Object, api.Errno) {
	p, e := pages.Get(d, page)
	if e != api.OK {
		return api.Item{}, nil, e
	}
	i, _ := docs.Get(d, p.Num)
	o := docs.Path(d, i.Obj, "Annots")
	if o.Kind != api.KNull && o.Kind != api.KArray {
		return api.Item{}, nil, api.ErrForm
	}
	return i, o.Kids, api.OK
}

// read does what Read does, by the words of the chapter.
func read(d api.Doc, page int) ([]api.Annot, api.Errno) {
	_, list, e := found(d, page)
	if e != api.OK {
		return nil, e
	}
	var l []api.Annot
	for _, o := range list {
		o = docs.Follow(d, o)
		kind, text := docs.Path(d, o, "Subtype"), docs.Path(d, o, "Contents")
		rect, _ := value.Get(o, "Rect")
		box, e := pages.Rect(d, rect)
		if o.Kind != api.KDict || kind.Kind != api.KName || e != api.OK {
			return nil, api.ErrForm
		}
		if text.Kind != api.KNull && text.Kind != api.KString {
			return nil, api.ErrForm
		}
		a := api.Annot{Kind: kind.S, Box: box, Text: text.S}
		if to, ok := value.Get(o, "Dest"); ok {
			if a.To, e = dest.Read(d, to); e != api.OK {
				return nil, e
			}
			a.Has = true
		}
		l = append(l, a)
	}
	if len(l) > api.MaxTree {
		return nil, api.ErrMany
	}
	return l, api.OK
}

// inRange reports whether a number can stand in a box.
func inRange(n int64) bool { return n >= -api.MaxFix && n <= api.MaxFix }

// with returns d with the array of annotations of a page, or without it if there are none.
func with(d api.Doc, i api.Item, list []api.Object) (api.Doc, api.Errno) {
	o := sample.Array(list...)
	if len(list) == 0 {
		o = value.Null()
	}
	page, e := value.Set(i.Obj, "Annots", o)
	if e != api.OK {
		return api.Doc{}, e
	}
	return docs.Put(d, api.Item{Num: i.Num, Gen: i.Gen, Obj: page})
}

// add does what Add does, by the words of the chapter.
func add(d api.Doc, page int, a api.Annot) (api.Doc, int, api.Errno) {
	i, list, e := found(d, page)
	b := a.Box
	switch {
	case e != api.OK:
		return api.Doc{}, 0, e
	case a.Kind == "" || b.X0 > b.X1 || b.Y0 > b.Y1:
		return api.Doc{}, 0, api.ErrArg
	case !inRange(b.X0) || !inRange(b.Y0) || !inRange(b.X1) || !inRange(b.Y1):
		return api.Doc{}, 0, api.ErrRange
	case len(a.Text) > api.MaxText || len(a.Kind) > api.MaxName:
		return api.Doc{}, 0, api.ErrLong
	case len(list) >= api.MaxTree:
		return api.Doc{}, 0, api.ErrMany
	}
	entries := map[string]api.Object{"Type": value.Name("Annot"), "Subtype": value.Name(a.Kind), "Rect": value.Array(value.Real(b.X0), value.Real(b.Y0), value.Real(b.X1), value.Real(b.Y1))}
	if a.Text != "" {
		entries["Contents"] = value.String(a.Text)
	}
	if a.Has {
		if entries["Dest"], e = dest.Make(d, a.To); e != api.OK {
			return api.Doc{}, 0, e
		}
	}
	d, num, e := docs.Add(d, sample.Entries(entries))
	if e != api.OK {
		return api.Doc{}, 0, e
	}
	if d, e = with(d, i, append(list, value.Ref(num, 0))); e != api.OK {
		return api.Doc{}, 0, e
	}
	return d, num, api.OK
}

// remove does what Remove does, by the words of the chapter.
func remove(d api.Doc, page, at int) (api.Doc, api.Errno) {
	i, list, e := found(d, page)
	if e != api.OK {
		return api.Doc{}, e
	}
	if at < 0 || at >= len(list) {
		return api.Doc{}, api.ErrNone
	}
	return with(d, i, slices.Delete(list, at, at+1))
}

// sheets returns the documents that the words of the chapter are tried on.
func sheets() []api.Doc {
	return slices.Concat(sample.Sheets(), sample.Trees()[:100], sample.Webs()[:50], sample.Docs()[:3])
}

// Promise 41.1, by the words of the chapter.
func TestReadByTheWords(t *testing.T) {
	errs, count := map[api.Errno]int{}, map[string]int{}
	for _, d := range sheets() {
		was := sample.Copy(d)
		n, _ := pages.Count(d)
		for page := -1; page <= n; page++ {
			want, wantErr := read(d, page)
			got, e := annot.Read(d, page)
			if !slices.Equal(got, want) || e != wantErr {
				t.Errorf("Read(%s, %d) = %v, %d, want %v, %d", brief(d), page, got, e, want, wantErr)
			}
			errs[e]++
			for _, a := range got {
				count["all"]++
				if a.Has {
					count["has"]++
				}
				if a.Text != "" {
					count["text"]++
				}
			}
		}
		if !docs.Same(d, was) {
			t.Errorf("the document has changed: %s", brief(was))
		}
	}
	if errs[api.OK] < 500 || errs[api.ErrForm] < 100 || errs[api.ErrNone] < 500 || errs[api.ErrKind] < 20 || errs[api.ErrPage] < 20 || count["all"] < 500 || count["has"] < 150 || count["text"] < 100 {
		t.Errorf("the errors are %v, and the annotations %v", errs, count)
	}
}

// picked returns an annotation that looks irregular, and now and then can't be added.
func picked(pick func(below int) int, most int) api.Annot {
	number := func() int64 { return int64(pick(9)-4) * 12345 }
	x, y := number(), number()
	a := api.Annot{Kind: []string{"Link", "Text", "a b"}[pick(3)], Box: api.Rect{X0: x, Y0: y, X1: x + int64(pick(3))*5000, Y1: y + int64(pick(3))}}
	if pick(2) == 0 {
		a.Text = sample.Keys()[pick(len(sample.Keys()))]
	}
	if pick(3) > 0 && most > 0 {
		a.Has, a.To = true, api.Dest{Page: pick(most), Kind: api.DestFitV, X: int64(pick(9)) * 5000}
	}
	switch pick(60) {
	case 0:
		a.Kind = ""
	case 1:
		a.Box.X1 = api.MaxFix + 1
	case 2:
		a.Box.Y1 -= 20000
	case 3:
		a.Has, a.To.Page = true, most
	case 4:
		a.Has, a.To = true, api.Dest{Kind: api.DestFit, Y: 1}
	case 5:
		a.Kind = "\x00"
	}
	return a
}

// Promises 41.2 and 41.4, by the words of the chapter.
func TestAddByTheWords(t *testing.T) {
	seed := uint32(41)
	pick := func(below int) int {
		seed = seed*1664525 + 1013904223
		return int(seed>>8) % below
	}
	errs := map[api.Errno]int{}
	for _, d := range sheets() {
		n, _ := pages.Count(d)
		page, a := pick(n+1), picked(pick, n)
		want, wantNum, wantErr := add(d, page, a)
		got, num, e := annot.Add(d, page, a)
		errs[e]++
		before, readErr := annot.Read(d, page)
		if e == api.OK && readErr == api.OK && sample.Settled(d, got) {
			follows(t, got, page, before, a)
			errs[-1]++
		}
		if wrong := sample.Wrong(d, got, e, want, wantErr); wrong != "" || num != wantNum {
			t.Errorf("Add(%s, %d, %v) = %d, want %d, and is wrong: %s", brief(d), page, a, num, wantNum, wrong)
		}
	}
	if errs[-1] < 200 || errs[api.ErrArg] < 5 || errs[api.ErrForm] < 8 || errs[api.ErrNone] < 50 || errs[api.ErrRange] < 5 {
		t.Errorf("the errors are %v", errs)
	}
}

// follows checks promise 41.4 for an annotation that was added behind others.
func follows(t *testing.T, d api.Doc, page int, before []api.Annot, a api.Annot) {
	t.Helper()
	if !a.Has {
		a.To = api.Dest{}
	}
	if l, e := annot.Read(d, page); e != api.OK || !slices.Equal(l, append(slices.Clone(before), a)) {
		t.Errorf("Read(%s, %d) = %v, %d, want %v and then %v", brief(d), page, l, e, before, a)
	}
	back, e := annot.Remove(d, page, len(before))
	if l, readErr := annot.Read(back, page); e != api.OK || readErr != api.OK || !slices.Equal(l, before) {
		t.Errorf("Read of page %d of %s = %v, %d, %d, want %v", page, brief(back), l, e, readErr, before)
	}
}

// Promise 41.3, by the words of the chapter.
func TestRemoveByTheWords(t *testing.T) {
	errs := map[api.Errno]int{}
	for _, d := range sheets() {
		n, _ := pages.Count(d)
		for page := range n + 1 {
			for at := -1; at < 7; at++ {
				want, wantErr := remove(d, page, at)
				got, e := annot.Remove(d, page, at)
				errs[e]++
				if e == api.OK && len(got.Items) != len(d.Items) {
					t.Errorf("Remove(%s, %d, %d) has %d items", brief(d), page, at, len(got.Items))
				}
				if wrong := sample.Wrong(d, got, e, want, wantErr); wrong != "" {
					t.Errorf("Remove(%s, %d, %d) is wrong: %s", brief(d), page, at, wrong)
				}
			}
		}
	}
	if errs[api.OK] < 500 || errs[api.ErrForm] < 100 || errs[api.ErrNone] < 500 {
		t.Errorf("the errors are %v", errs)
	}
}
