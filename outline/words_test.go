package outline_test

import (
	"slices"
	"testing"

	"foliant/api"
	"foliant/catalog"
	"foliant/dest"
	"foliant/docs"
	"foliant/outline"
	"foliant/pages"
	"foliant/sample"
	"foliant/value"
)

// told is what reading an outline has found so far.
type told struct {
	d       api.Doc
	visited []int
}

// isMark returns the item of a mark to which o must refer, inside so many others, by the words of the chapter.
func (x *told) isMark(o api.Object, inside int) (api.Item, api.Errno) {
	i, ok := docs.Get(x.d, int(o.N))
	title := docs.Path(x.d, i.Obj, "Title")
	switch {
	case o.Kind != api.KRef || !ok || i.Gen != o.G || i.Obj.Kind != api.KDict:
		return api.Item{}, api.ErrKind
	case slices.Contains(x.visited, i.Num):
		return api.Item{}, api.ErrLoop
	case len(x.visited) == api.MaxTree:
		return api.Item{}, api.ErrMany
	case inside == api.MaxDepth:
		return api.Item{}, api.ErrDeep
	case title.Kind != api.KString:
		return api.Item{}, api.ErrKind
	case len(title.S) > api.MaxText:
		return api.Item{}, api.ErrLong
	}
	x.visited = append(x.visited, i.Num)
	return i, api.OK
}

// row returns the marks from the one to which a key of o refers, if there is one.
func (x *told) row(o api.Object, key string, inside int) ([]api.Mark, api.Errno) {
	first, ok := value.Get(o, key)
	if !ok {
		return nil, api.OK
	}
	i, e := x.isMark(first, inside)
	if e != api.OK {
		return nil, e
	}
	m := api.Mark{Title: docs.Path(x.d, i.Obj, "Title").S}
	if to, ok := value.Get(i.Obj, "Dest"); ok {
		m.To, e = dest.Read(x.d, to)
		m.Has = e == api.OK
	}
	if m.Kids, e = x.row(i.Obj, "First", inside+1); e != api.OK {
		return nil, e
	}
	count := docs.Path(x.d, i.Obj, "Count")
	m.Open = len(m.Kids) > 0 && count.Kind == api.KInt && count.N > 0
	rest, e := x.row(i.Obj, "Next", inside)
	if e != api.OK {
		return nil, e
	}
	return append([]api.Mark{m}, rest...), api.OK
}

// read does what Read does, by the words of the chapter.
func read(d api.Doc) ([]api.Mark, api.Errno) {
	if e := docs.Check(d); e != api.OK {
		return nil, e
	}
	o := docs.Path(d, d.Trailer, "Root", "Outlines")
	switch o.Kind {
	case api.KNull:
		return nil, api.OK
	case api.KDict:
		x := told{d: d}
		return x.row(o, "First", 0)
	}
	return nil, api.ErrKind
}

// preorder returns the marks of l in preorder, with the ancestors of each.
func preorder(l []api.Mark, above int) (list []api.Mark, ancestors []int) {
	for _, m := range l {
		list, ancestors = append(list, m), append(ancestors, above)
		kids, counts := preorder(m.Kids, above+1)
		list, ancestors = append(list, kids...), append(ancestors, counts...)
	}
	return list, ancestors
}

// check does what Check does, by the words of the chapter.
func check(d api.Doc, l []api.Mark) api.Errno {
	if e := docs.Check(d); e != api.OK {
		return e
	}
	list, ancestors := preorder(l, 0)
	for i, m := range list {
		switch {
		case i >= api.MaxTree:
			return api.ErrMany
		case ancestors[i] >= api.MaxDepth:
			return api.ErrDeep
		case len(m.Title) > api.MaxText:
			return api.ErrLong
		case !m.Has && m.To != api.Dest{}, m.Open && len(m.Kids) == 0:
			return api.ErrArg
		}
		if _, e := dest.Make(d, m.To); m.Has && e != api.OK {
			return e
		}
	}
	return api.OK
}

// visible returns how many marks of a list are visible, by the words of the chapter.
func visible(l []api.Mark) int {
	n := len(l)
	for _, m := range l {
		if m.Open {
			n += visible(m.Kids)
		}
	}
	return n
}

// store adds the entries for a row of marks, of which the first one has the number next, to those of their parent, and returns the number after them. The dictionaries of the marks are put into dicts by their numbers.
func store(d api.Doc, l []api.Mark, parent int, above map[string]api.Object, dicts map[int]map[string]api.Object, next int) int {
	var nums []int
	for _, m := range l {
		nums = append(nums, next)
		entries := map[string]api.Object{"Title": value.String(m.Title), "Parent": value.Ref(parent, 0)}
		if m.Has {
			entries["Dest"], _ = dest.Make(d, m.To)
		}
		if n := visible(m.Kids); n > 0 {
			if !m.Open {
				n = -n
			}
			entries["Count"] = value.Int(int64(n))
		}
		dicts[next] = entries
		next = store(d, m.Kids, next, entries, dicts, next+1)
	}
	for i, num := range nums {
		if i > 0 {
			dicts[num]["Prev"] = value.Ref(nums[i-1], 0)
			dicts[nums[i-1]]["Next"] = value.Ref(num, 0)
		}
	}
	if len(nums) > 0 {
		above["First"], above["Last"] = value.Ref(nums[0], 0), value.Ref(nums[len(nums)-1], 0)
	}
	return next
}

// set does what Set does, by the words of the chapter.
func set(d api.Doc, l []api.Mark) (api.Doc, api.Errno) {
	if e := check(d, l); e != api.OK {
		return api.Doc{}, e
	}
	if len(l) == 0 {
		return catalog.SetRoot(d, "Outlines", value.Null())
	}
	first, e := docs.Free(d)
	if e != api.OK {
		return api.Doc{}, e
	}
	root := map[string]api.Object{"Count": value.Int(int64(visible(l))), "Type": value.Name("Outlines")}
	dicts := map[int]map[string]api.Object{first: root}
	end := store(d, l, first, root, dicts, first+1)
	for num := first; num < end; num++ {
		var added int
		if d, added, e = docs.Add(d, sample.Entries(dicts[num])); added != num || e != api.OK {
			return api.Doc{}, api.ErrFull
		}
	}
	return catalog.SetRoot(d, "Outlines", value.Ref(first, 0))
}

// Promises 40.1 and 40.6, by the words of the chapter.
func TestReadByTheWords(t *testing.T) {
	errs := map[api.Errno]int{}
	for _, d := range slices.Concat(sample.Books(), sample.Webs(), sample.Docs()) {
		was := sample.Copy(d)
		want, wantErr := read(d)
		got, e := outline.Read(d)
		if !sameMarks(got, want) || e != wantErr {
			t.Errorf("Read(%s) = %s, %d, want %s, %d", brief(d), brief(got), e, brief(want), wantErr)
		}
		errs[e]++
		list, _ := preorder(got, 0)
		for _, m := range list {
			if m.Has {
				errs[-1]++
			}
			if m.Open {
				errs[-2]++
			}
		}
		if !docs.Same(d, was) {
			t.Errorf("the document has changed: %s", brief(was))
		}
	}
	if errs[api.OK] < 300 || errs[api.ErrKind] < 30 || errs[api.ErrLoop] < 8 || errs[-1] < 300 || errs[-2] < 80 {
		t.Errorf("the errors are %v", errs)
	}
}

// forest makes marks that look irregular, and now and then can't be set.
func forest(pick func(below int) int, pages, inside int) []api.Mark {
	var l []api.Mark
	for range pick(5 - min(inside, 4)) {
		m := api.Mark{Title: sample.Keys()[pick(len(sample.Keys()))]}
		if pick(2) == 0 {
			m.Kids = forest(pick, pages, inside+1)
		}
		m.Open = len(m.Kids) > 0 && pick(2) == 0
		if pages > 0 && pick(3) > 0 {
			m.Has, m.To = true, api.Dest{Page: pick(pages), Kind: api.DestFitV, X: int64(pick(9)) * 5000}
		}
		switch pick(300) {
		case 0:
			m.Open = true
		case 1:
			m.To.Page++
		case 2:
			m.To.Y++
		case 3:
			m.Has = true
		}
		l = append(l, m)
	}
	return l
}

// Promises 40.2, 40.3 and 40.5, by the words of the chapter.
func TestSetByTheWords(t *testing.T) {
	seed := uint32(40)
	pick := func(below int) int {
		seed = seed*1664525 + 1013904223
		return int(seed>>8) % below
	}
	errs := map[api.Errno]int{}
	for _, d := range slices.Concat(sample.Books(), sample.Webs(), sample.Docs()[:3], sample.Docs()[4:]) {
		n := 0
		if list, e := pages.List(d); e == api.OK {
			n = len(list)
		}
		l := forest(pick, n, 0)
		want, wantErr := set(d, l)
		if e := outline.Check(d, l); e != check(d, l) {
			t.Errorf("Check(%s, %s) = %d, want %d", brief(d), brief(l), e, check(d, l))
		}
		got, e := outline.Set(d, l)
		errs[e]++
		if e == api.OK && sample.Settled(d, got) {
			if back, readErr := outline.Read(got); !sameMarks(back, l) || readErr != api.OK {
				t.Errorf("Read after Set(%s, %s) = %s, %d", brief(d), brief(l), brief(back), readErr)
			}
			errs[-1]++
		}
		if wrong := sample.Wrong(d, got, e, want, wantErr); wrong != "" {
			t.Errorf("Set(%s, %s) is wrong: %s", brief(d), brief(l), wrong)
		}
	}
	if errs[-1] < 200 || errs[api.ErrArg] < 10 || errs[api.ErrKind] < 3 {
		t.Errorf("the errors are %v", errs)
	}
}
