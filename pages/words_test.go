package pages_test

import (
	"slices"
	"testing"

	"foliant/api"
	"foliant/docs"
	"foliant/filter"
	"foliant/pages"
	"foliant/sample"
	"foliant/value"
)

// entry returns what a key of an item's dictionary resolves to.
func entry(d api.Doc, num int, key string) api.Object {
	i, _ := docs.Get(d, num)
	v, _ := value.Get(i.Obj, key)
	return docs.Follow(d, v)
}

// trail is a node with its ancestors, from the root on.
type trail []int

// traverse returns the pages by the words of the chapter.
func traverse(d api.Doc) ([]trail, api.Errno) {
	var met []int
	var list []trail
	var visit func(o api.Object, above trail) api.Errno
	visit = func(o api.Object, above trail) api.Errno {
		i, _ := docs.Get(d, int(o.N))
		kind := entry(d, i.Num, "Type")
		kids := entry(d, i.Num, "Kids")
		isPage := kind.Kind == api.KName && kind.S == "Page"
		isInner := kind.Kind == api.KName && kind.S == "Pages"
		switch {
		case o.Kind != api.KRef || i.Num == 0 || i.Gen != o.G || i.Obj.Kind != api.KDict || !isPage && !isInner || isInner && kids.Kind != api.KArray:
			return api.ErrPage
		case slices.Contains(met, i.Num):
			return api.ErrLoop
		case len(above) >= api.MaxDepth:
			return api.ErrDeep
		}
		met = append(met, i.Num)
		here := append(slices.Clone(above), i.Num)
		if isPage {
			list = append(list, here)
		}
		if len(met) > api.MaxTree || len(list) > api.MaxPages {
			return api.ErrMany
		}
		if isInner {
			for _, kid := range kids.Kids {
				if e := visit(kid, here); e != api.OK {
					return e
				}
			}
		}
		return api.OK
	}
	root, _ := value.Get(docs.Path(d, d.Trailer, "Root"), "Pages")
	if e := visit(root, nil); e != api.OK {
		return nil, e
	}
	return list, api.OK
}

// inherited returns the attribute of a page, or null.
func inherited(d api.Doc, t trail, key string) api.Object {
	for _, num := range slices.Backward(t) {
		if o := entry(d, num, key); o.Kind != api.KNull {
			return o
		}
	}
	return value.Null()
}

// told returns a page by the words of the chapter.
func told(d api.Doc, t trail) (api.Page, api.Errno) {
	p := api.Page{Num: t[len(t)-1], Res: sample.Dict("")}
	media, crop, rotate, res := inherited(d, t, "MediaBox"), inherited(d, t, "CropBox"), inherited(d, t, "Rotate"), inherited(d, t, "Resources")
	e := api.OK
	if p.Media, e = pages.Rect(d, media); e != api.OK {
		return api.Page{}, api.ErrPage
	}
	p.Crop = p.Media
	if crop.Kind != api.KNull {
		c, e := pages.Rect(d, crop)
		if e != api.OK {
			return api.Page{}, api.ErrPage
		}
		both := api.Rect{X0: max(c.X0, p.Media.X0), Y0: max(c.Y0, p.Media.Y0), X1: min(c.X1, p.Media.X1), Y1: min(c.Y1, p.Media.Y1)}
		if both.X1-both.X0 > 0 && both.Y1-both.Y0 > 0 {
			p.Crop = both
		}
	}
	if rotate.Kind != api.KNull {
		if rotate.Kind != api.KInt || rotate.N%90 != 0 {
			return api.Page{}, api.ErrPage
		}
		for n := range int64(4) {
			if (rotate.N-90*n)%360 == 0 {
				p.Rotate = int(90 * n)
			}
		}
	}
	if res.Kind != api.KNull {
		p.Res = res
	}
	if p.Res.Kind != api.KDict {
		return api.Page{}, api.ErrPage
	}
	return p, api.OK
}

// content returns the content of a page by the words of the chapter.
func content(d api.Doc, num int) (string, api.Errno) {
	o := entry(d, num, "Contents")
	switch o.Kind {
	case api.KNull:
		return "", api.OK
	case api.KStream:
		return filter.Decode(o)
	case api.KArray:
	default:
		return "", api.ErrPage
	}
	for _, kid := range o.Kids {
		if docs.Follow(d, kid).Kind != api.KStream {
			return "", api.ErrPage
		}
	}
	all := ""
	for i, kid := range o.Kids {
		data, e := filter.Decode(docs.Follow(d, kid))
		if e != api.OK {
			return "", e
		}
		if i > 0 {
			all += "\n"
		}
		if all += data; len(all) > api.MaxData {
			return "", api.ErrLong
		}
	}
	return all, api.OK
}

// answers holds all that the package tells of a document against the words of the chapter, and returns the error of List and how many pages there are.
func answers(t *testing.T, d api.Doc) (api.Errno, int) {
	t.Helper()
	was := sample.Copy(d)
	trails, treeErr := traverse(d)
	var want []api.Page
	wantErr := treeErr
	for _, trail := range trails {
		p, e := told(d, trail)
		if e != api.OK {
			want, wantErr = nil, e
			break
		}
		want = append(want, p)
	}
	got, e := pages.List(d)
	if !samePages(got, want) || e != wantErr {
		t.Errorf("List(%s) = %v, %d, want %v, %d", brief(d), got, e, want, wantErr)
	}
	if n, e := pages.Count(d); n != len(trails) || e != treeErr {
		t.Errorf("Count(%s) = %d, %d, want %d, %d", brief(d), n, e, len(trails), treeErr)
	}
	for at := -1; at <= len(trails); at++ {
		answersPage(t, d, trails, at, treeErr)
	}
	for _, i := range d.Items {
		wantAt := slices.IndexFunc(trails, func(l trail) bool { return l[len(l)-1] == i.Num })
		at, ok := pages.Place(d, i.Num)
		if ok != (wantAt >= 0) || at != max(wantAt, 0) {
			t.Errorf("Place(%s, %d) = %d, %v, want %d", brief(d), i.Num, at, ok, wantAt)
		}
	}
	for i := range got {
		sample.Spoil(got[i].Res)
	}
	if !docs.Same(d, was) {
		t.Errorf("the document has changed: %s", brief(was))
	}
	return wantErr, len(trails)
}

// answersPage holds what the package tells of the page at an index against the words of the chapter.
func answersPage(t *testing.T, d api.Doc, trails []trail, at int, treeErr api.Errno) {
	t.Helper()
	want, wantErr, wantText := api.Page{}, treeErr, ""
	if treeErr == api.OK && (at < 0 || at >= len(trails)) {
		wantErr = api.ErrNone
	} else if treeErr == api.OK {
		want, wantErr = told(d, trails[at])
	}
	got, e := pages.Get(d, at)
	if !samePage(got, want) || e != wantErr {
		t.Errorf("Get(%s, %d) = %v, %d, want %v, %d", brief(d), at, got, e, want, wantErr)
	}
	sample.Spoil(got.Res)
	if wantErr == api.OK {
		wantText, wantErr = content(d, want.Num)
	}
	if text, e := pages.Content(d, at); text != wantText || e != wantErr {
		t.Errorf("Content(%s, %d) = %q, %d, want %q, %d", brief(d), at, text, e, wantText, wantErr)
	}
}

// Promises 35.1 to 35.4, by the words of the chapter.
func TestTreesByTheWords(t *testing.T) {
	errs, counts := map[api.Errno]int{}, map[int]int{}
	for _, d := range sample.Trees() {
		e, n := answers(t, d)
		errs[e]++
		counts[n]++
	}
	if errs[api.OK] < 300 || errs[api.ErrPage] < 40 || errs[api.ErrLoop] < 20 {
		t.Errorf("the errors of the samples are %v", errs)
	}
	for n := range 5 {
		if counts[n] < 10 {
			t.Errorf("%d samples have %d pages", counts[n], n)
		}
	}
	for _, d := range slices.Concat(sample.Webs(), sample.Docs()[:3]) {
		answers(t, d)
	}
}

// explicit returns the item of a page with all that it inherits in itself.
func explicit(d api.Doc, t trail) api.Item {
	i, _ := docs.Get(d, t[len(t)-1])
	for _, key := range []string{"Resources", "MediaBox", "CropBox", "Rotate"} {
		if o := inherited(d, t, key); o.Kind != api.KNull {
			i.Obj = with(i.Obj, key, o)
		}
	}
	return i
}

// Promise 35.4.
func TestPagesAgree(t *testing.T) {
	for _, d := range sample.Trees() {
		list, e := pages.List(d)
		if e != api.OK {
			continue
		}
		trails, _ := traverse(d)
		for n, p := range list {
			got, e := pages.Get(d, n)
			if !samePage(got, p) || e != api.OK {
				t.Errorf("Get(%s, %d) = %v, %d, want %v", brief(d), n, got, e, p)
			}
			if at, ok := pages.Place(d, p.Num); at != n || !ok {
				t.Errorf("Place(%s, %d) = %d, %v, want %d", brief(d), p.Num, at, ok, n)
			}
			written, e := docs.Put(d, explicit(d, trails[n]))
			if again, _ := pages.List(written); !samePages(again, list) || e != api.OK {
				t.Errorf("page %d of %s is %v once written, %d", n, brief(d), again, e)
			}
		}
	}
}

// Each, by which draw goes through the pages: what Get and Content return for each of them, or the error of the tree.
func TestEach(t *testing.T) {
	all := slices.Concat(sample.Trees(), sample.Webs(), sample.Docs()[:3])
	for _, b := range sample.BadDocs() {
		all = append(all, b.Is)
	}
	errs := map[api.Errno]int{}
	for _, d := range all {
		was := sample.Copy(d)
		n, treeErr := pages.Count(d)
		at := 0
		for got, e := range pages.Each(d) {
			want, wantErr := pages.Get(d, at)
			content, contentErr := pages.Content(d, at)
			if wantErr == api.OK && contentErr != api.OK {
				want, wantErr = api.Page{}, contentErr
			}
			if treeErr != api.OK {
				wantErr = treeErr
			}
			if !samePage(got.Page, want) || got.Content != content || e != wantErr {
				t.Errorf("page %d of %s is %v, %d, want %v, %q, %d", at, brief(d), got, e, want, content, wantErr)
			}
			sample.Spoil(got.Res)
			errs[e]++
			at++
		}
		if treeErr == api.OK && at != n || treeErr != api.OK && at != 1 {
			t.Errorf("%d pages of %s, which has %d", at, brief(d), n)
		}
		for range pages.Each(d) {
			break
		}
		if !docs.Same(d, was) {
			t.Errorf("the document has changed: %s", brief(was))
		}
	}
	if errs[api.OK] < 1000 || errs[api.ErrPage] < 100 || errs[api.ErrForm] < 5 || errs[api.ErrLoop] < 20 {
		t.Errorf("the errors are %v", errs)
	}
}
