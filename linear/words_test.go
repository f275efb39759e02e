package linear_test

import (
	"fmt"
	"slices"
	"strings"
	"testing"

	"foliant/api"
	"foliant/body"
	"foliant/docs"
	"foliant/head"
	"foliant/hint"
	"foliant/linear"
	"foliant/load"
	"foliant/sample"
	"foliant/update"
	"foliant/value"
	"foliant/write"
)

// pick chooses a number from 0 to below, not included.
func pick(seed *uint32, below int) int {
	*seed = *seed*1664525 + 1013904223
	return int(*seed>>8) % below
}

// meant returns the item that an object refers to, and whether it does.
func meant(d api.Doc, o api.Object) (api.Item, bool) {
	i, ok := docs.Get(d, int(o.N))
	return i, ok && o.Kind == api.KRef && i.Gen == o.G
}

// pagesOf returns the numbers of the pages by the words of the chapter.
func pagesOf(d api.Doc) ([]int, api.Errno) {
	var met, list []int
	var visit func(o api.Object, depth int) api.Errno
	visit = func(o api.Object, depth int) api.Errno {
		i, ok := meant(d, o)
		if !ok || i.Obj.Kind != api.KDict || slices.Contains(met, i.Num) || depth > api.MaxDepth {
			return api.ErrPage
		}
		met = append(met, i.Num)
		kids := docs.Path(d, i.Obj, "Kids")
		if kids.Kind != api.KArray {
			list = append(list, i.Num)
			return api.OK
		}
		for _, kid := range kids.Kids {
			if e := visit(kid, depth+1); e != api.OK {
				return e
			}
		}
		return api.OK
	}
	root, _ := value.Get(docs.Path(d, d.Trailer, "Root"), "Pages")
	if e := visit(root, 1); e != api.OK || len(list) == 0 || len(list) > api.MaxPages {
		return nil, api.ErrPage
	}
	return list, api.OK
}

// need adds what an object refers to, and what that needs, to the numbers of what a page needs.
func need(d api.Doc, o api.Object, page int, nums []int) []int {
	if i, ok := meant(d, o); ok {
		kind, _ := value.Get(i.Obj, "Type")
		typed := i.Obj.Kind == api.KDict && kind.Kind == api.KName && slices.Contains([]string{"Page", "Pages", "Catalog"}, kind.S)
		if slices.Contains(nums, i.Num) || typed && i.Num != page {
			return nums
		}
		nums = append(nums, i.Num)
		o = i.Obj
		if i.Num == page {
			o = value.Drop(o, "Parent")
		}
	}
	for _, kid := range o.Kids {
		nums = need(d, kid, page, nums)
	}
	return nums
}

// order returns the groups by the words of the chapter.
func order(d api.Doc) ([][]int, api.Errno) {
	if e := docs.Check(d); e != api.OK {
		return nil, e
	}
	pages, e := pagesOf(d)
	if e != api.OK {
		return nil, e
	}
	var groups [][]int
	taken := map[int]bool{}
	take := func(nums []int) {
		var group []int
		for _, num := range nums {
			if !taken[num] {
				group = append(group, num)
			}
			taken[num] = true
		}
		slices.Sort(group)
		groups = append(groups, group)
	}
	root, _ := value.Get(d.Trailer, "Root")
	for n, page := range pages {
		i, _ := docs.Get(d, page)
		nums := need(d, sample.Ref(page, i.Gen), page, nil)
		if n == 0 {
			nums = append(nums, int(root.N))
		}
		take(nums)
	}
	var rest []int
	for _, i := range d.Items {
		rest = append(rest, i.Num)
	}
	take(rest)
	return groups, api.OK
}

// file returns the linearized file of a document by the words of the chapter, with its layout and its hints. It has an error only if a text has one or is too long.
func file(d api.Doc) (string, api.Layout, []api.Hint, api.Errno) {
	groups, _ := order(d)
	pages, _ := pagesOf(d)
	texts, sizes := map[int]string{}, make([]int, len(groups))
	for n, group := range groups {
		for _, num := range group {
			i, _ := docs.Get(d, num)
			text, e := body.Text(i)
			if e != api.OK {
				return "", api.Layout{}, nil, e
			}
			texts[num] = text
			sizes[n] += len(text)
		}
	}
	last := d.Items[len(d.Items)-1].Num
	withSize, _ := value.Set(d.Trailer, "Size", value.Int(int64(last+1)))
	trailer, _ := write.Text(withSize)
	// All of what has numbers that come of the layout is as long as this.
	ten := strings.Repeat("0", 10)
	parms := func(e, h, n, l, t string, first int) string {
		return fmt.Sprintf("8191 0 obj\n<</E %s/H[%s %s]/L %s/Linearized 1/N %d/O %d/T %s>>\nendobj\n", e, h, n, l, len(pages), first, t)
	}
	section := func(at map[int]int, nums []int) string {
		s := "xref\n"
		for from := 0; from < len(nums); {
			to := from + 1
			for to < len(nums) && nums[to] == nums[to-1]+1 {
				to++
			}
			s += fmt.Sprintf("%d %d\n", nums[from], to-from)
			for _, num := range nums[from:to] {
				i, _ := docs.Get(d, num)
				if num == 0 {
					s += "0000000000 65535 f \n"
				} else {
					s += fmt.Sprintf("%010d %05d n \n", at[num], i.Gen)
				}
			}
			from = to
		}
		return s + "trailer\n"
	}
	header := "%PDF-1.7\n%\xe2\xe3\xcf\xd3\n"
	start := len(header) + len(parms(ten, ten, ten, ten, ten, pages[0]))
	front := start + len(section(nil, groups[0])) + len(trailer) + len(" /Prev ") + 10 + len("\nstartxref\n0\n%%EOF\n")
	at, off := map[int]int{}, front
	place := func(group []int) (s string) {
		for _, num := range group {
			at[num] = off
			off += len(texts[num])
			s += texts[num]
		}
		return s
	}
	first := place(groups[0])
	hints := []api.Hint{{Objects: len(groups[0]), Bytes: sizes[0], At: front}}
	for n := 1; n < len(pages); n++ {
		h := api.Hint{Objects: len(groups[n]), Bytes: sizes[n]}
		if h.Objects > 0 {
			for _, size := range sizes[1:n] {
				h.At += size
			}
		}
		hints = append(hints, h)
	}
	data, e := hint.Text(hints)
	if e != api.OK {
		return "", api.Layout{}, nil, e
	}
	hinted := fmt.Sprintf("8191 0 obj\n<</Length %d>>\nstream\n%s\nendstream\nendobj\n", len(data), data)
	l := api.Layout{Hints: off, Size: len(hinted), First: pages[0], Pages: len(pages)}
	off += len(hinted)
	l.End = off
	rest, others := "", []int{0}
	for _, group := range groups[1:] {
		rest += place(group)
		others = append(others, group...)
	}
	l.Main = off
	slices.Sort(others)
	end := section(at, others) + trailer + fmt.Sprintf("\nstartxref\n%d\n%%%%EOF\n", start)
	l.Length = off + len(end)
	if l.Length > api.MaxFile {
		return "", api.Layout{}, nil, api.ErrLong
	}
	pad := func(n int) string { return fmt.Sprintf("%010d", n) }
	s := header + parms(pad(l.End), pad(l.Hints), pad(l.Size), pad(l.Length), pad(l.Main), l.First)
	s += section(at, groups[0]) + strings.TrimSuffix(trailer, ">>") + " /Prev " + pad(l.Main) + ">>\nstartxref\n0\n%%EOF\n"
	return s + first + hinted + rest + end, l, hints, api.OK
}

// answers holds what the package tells of a document, and of its file, against the words of the chapter. It returns the error of File, and how many pages there are.
func answers(t *testing.T, d api.Doc) (api.Errno, int) {
	t.Helper()
	was := sample.Copy(d)
	groups, wantErr := order(d)
	got, e := linear.Order(d)
	if !slices.EqualFunc(got, groups, slices.Equal[[]int]) || e != wantErr {
		t.Errorf("Order(%s) = %v, %d, want %v, %d", brief(d), got, e, groups, wantErr)
	}
	want, l, hints := "", api.Layout{}, []api.Hint(nil)
	switch {
	case wantErr != api.OK:
	case d.Items[len(d.Items)-1].Num == api.MaxNum:
		wantErr = api.ErrRange
	default:
		want, l, hints, wantErr = file(d)
	}
	s, e := linear.File(d)
	if s != want || e != wantErr {
		t.Errorf("File(%s) = %s, %d, want %s, %d", brief(d), brief(s), e, brief(want), wantErr)
	}
	if !docs.Same(d, was) {
		t.Errorf("the document has changed: %s", brief(was))
	}
	if wantErr == api.OK {
		reads(t, d, want, l, hints, groups[0])
	}
	return e, max(len(groups)-1, 0)
}

// reads checks what is read from a linearized file.
func reads(t *testing.T, d api.Doc, s string, l api.Layout, hints []api.Hint, first []int) {
	t.Helper()
	if got, e := linear.Read(s); got != l || e != api.OK {
		t.Errorf("Read(%s) = %v, %d, want %v", brief(s), got, e, l)
	}
	if got, e := linear.Hints(s); !slices.Equal(got, hints) || e != api.OK {
		t.Errorf("Hints(%s) = %v, %d, want %v", brief(s), got, e, hints)
	}
	var items []api.Item
	for _, num := range first {
		i, _ := docs.Get(d, num)
		items = append(items, i)
	}
	for _, rest := range []string{s[l.End:], strings.Repeat(" ", len(s)-l.End), strings.Repeat("xref", len(s))[:len(s)-l.End]} {
		if got, e := linear.First(s[:l.End] + rest); !slices.EqualFunc(got, items, sameItem) || e != api.OK {
			t.Errorf("First(%s) = %s, %d, want %s", brief(s), brief(got), e, brief(items))
		}
	}
	if got, report, e := load.Open(s); !docs.Same(got, d) || report.Repaired || report.Sections != 2 || e != api.OK {
		t.Errorf("Open(File(%s)) = %s, %v, %d", brief(d), brief(got), report, e)
	}
	root, _ := value.Get(d.Trailer, "Root")
	i, _ := docs.Get(d, int(root.N))
	i.Obj, _ = value.Set(i.Obj, "New", value.Int(1))
	if more, e := update.Append(s, []api.Item{i}, nil); e == api.OK {
		changed, _ := docs.Put(d, i)
		if back, e := load.Strict(more); !docs.Same(back, changed) || e != api.OK {
			t.Errorf("an update of File(%s) is read as %s, %d", brief(d), brief(back), e)
		}
		if got, e := linear.Read(more); got != (api.Layout{}) || e != api.ErrHint {
			t.Errorf("Read of an update of File(%s) = %v, %d", brief(d), got, e)
		}
	} else if len(s) < api.MaxFile-1000 {
		t.Errorf("File(%s) can't be updated: %d", brief(d), e)
	}
	if start, e := head.Start(s); start >= l.Hints || e != api.OK {
		t.Errorf("File(%s) starts at %d, %d", brief(d), start, e)
	}
}

// stripped returns a document in which some of the items have no Type, which linearized files don't ask for.
func stripped(d api.Doc, seed *uint32) api.Doc {
	d = sample.Copy(d)
	for n := range d.Items {
		if pick(seed, 2) == 0 {
			d.Items[n].Obj = value.Drop(d.Items[n].Obj, "Type")
		}
	}
	return d
}

// treed returns a document with a page tree of some of its items.
func treed(d api.Doc, seed *uint32) api.Doc {
	d = sample.Copy(d)
	root, _ := value.Get(d.Trailer, "Root")
	kids := value.Array()
	var tree int
	for n, i := range d.Items {
		if i.Obj.Kind != api.KDict || int64(i.Num) == root.N && pick(seed, 9) > 0 {
			continue
		}
		if tree == 0 {
			tree = n + 1
			continue
		}
		kids.Kids = append(kids.Kids, sample.Ref(i.Num, i.Gen))
		if pick(seed, 3) == 0 {
			d.Items[n].Obj, _ = value.Set(d.Items[n].Obj, "Type", value.Name([]string{"Page", "Pages", "Catalog", "Font"}[pick(seed, 4)]))
		}
		if pick(seed, 3) == 0 {
			other := d.Items[pick(seed, len(d.Items))]
			d.Items[n].Obj, _ = value.Set(d.Items[n].Obj, "Parent", sample.Ref(other.Num, other.Gen))
		}
	}
	for n := range d.Items {
		if n+1 == tree {
			d.Items[n].Obj, _ = value.Set(d.Items[n].Obj, "Kids", kids)
		}
		if int64(d.Items[n].Num) == root.N && tree > 0 {
			d.Items[n].Obj, _ = value.Set(d.Items[n].Obj, "Pages", sample.Ref(d.Items[tree-1].Num, d.Items[tree-1].Gen))
		}
	}
	return d
}

// Promises 33.1 to 33.4, and P1, by the words of the chapter.
func TestByTheWords(t *testing.T) {
	seed := uint32(33)
	errs, counts := map[api.Errno]int{}, map[int]int{}
	for _, d := range slices.Concat(sample.Trees(), sample.Webs(), sample.Docs()[:3]) {
		for _, d := range []api.Doc{d, stripped(d, &seed), treed(d, &seed)} {
			e, n := answers(t, d)
			errs[e]++
			counts[n]++
		}
	}
	if errs[api.OK] < 500 || errs[api.ErrPage] < 200 || errs[api.ErrRange] == 0 {
		t.Errorf("the errors are %v", errs)
	}
	for n := range 9 {
		if counts[n] < 20 {
			t.Errorf("%d documents have %d pages", counts[n], n)
		}
	}
}
