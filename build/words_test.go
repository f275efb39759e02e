package build_test

import (
	"slices"
	"testing"

	"foliant/api"
	"foliant/build"
	"foliant/catalog"
	"foliant/docs"
	"foliant/pages"
	"foliant/sample"
	"foliant/value"
)

// pick chooses a number from 0 to below, not included.
func pick(seed *uint32, below int) int {
	*seed = *seed*1664525 + 1013904223
	return int(*seed>>8) % below
}

// isType reports whether an object is a dictionary of a type, which may be a reference.
func isType(d api.Doc, o api.Object, kind string) bool {
	v, _ := value.Get(o, "Type")
	return o.Kind == api.KDict && value.Same(docs.Follow(d, v), value.Name(kind))
}

// innerNodes returns the numbers of the inner nodes of a page tree that is as it must be, the root first.
func innerNodes(d api.Doc) []int {
	root, _ := value.Get(docs.Path(d, d.Trailer, "Root"), "Pages")
	if !isType(d, docs.Follow(d, root), "Pages") {
		return nil
	}
	nums := []int{int(root.N)}
	for at := 0; at < len(nums); at++ {
		i, _ := docs.Get(d, nums[at])
		for _, kid := range docs.Path(d, i.Obj, "Kids").Kids {
			if isType(d, docs.Follow(d, kid), "Pages") {
				nums = append(nums, int(kid.N))
			}
		}
	}
	return nums
}

// asNumber returns a number as an object.
func asNumber(n int64) api.Object {
	if n/api.One*api.One == n {
		return value.Int(n / api.One)
	}
	return value.Real(n)
}

// own does what Own does, by the words of the chapter.
func own(d api.Doc, p api.Page) (api.Object, api.Errno) {
	if e := docs.Check(d); e != api.OK {
		return api.Object{}, e
	}
	i, ok := docs.Get(d, p.Num)
	if !ok {
		return api.Object{}, api.ErrNone
	}
	if !isType(d, i.Obj, "Page") {
		return api.Object{}, api.ErrPage
	}
	box := func(r api.Rect) api.Object {
		return value.Array(asNumber(r.X0), asNumber(r.Y0), asNumber(r.X1), asNumber(r.Y1))
	}
	crop, rotate := box(p.Crop), value.Int(int64(p.Rotate))
	if p.Crop == p.Media {
		crop = value.Null()
	}
	if p.Rotate == 0 {
		rotate = value.Null()
	}
	o := i.Obj
	for n, key := range []string{"Resources", "MediaBox", "CropBox", "Rotate"} {
		var e api.Errno
		if o, e = value.Set(o, key, []api.Object{p.Res, box(p.Media), crop, rotate}[n]); e != api.OK {
			return api.Object{}, e
		}
	}
	return o, api.OK
}

// change makes one change after the other to a document, until one fails.
type change struct {
	d api.Doc
	e api.Errno
}

func (c *change) fail(e api.Errno) {
	if c.e == api.OK {
		c.e = e
	}
}

func (c *change) put(num int, o api.Object) {
	if c.e == api.OK {
		i, _ := docs.Get(c.d, num)
		i.Obj = o
		c.d, c.e = docs.Put(c.d, i)
	}
}

func (c *change) drop(num int) {
	if c.e == api.OK {
		c.d, c.e = docs.Drop(c.d, num)
	}
}

func (c *change) add() (num int) {
	if c.e == api.OK {
		c.d, num, c.e = docs.Add(c.d, value.Null())
	}
	return num
}

func (c *change) get(num int) api.Item {
	i, _ := docs.Get(c.d, num)
	return i
}

// tree does what Tree does, by the words of the chapter.
func tree(d api.Doc, nums []int, fan int) (api.Doc, api.Errno) {
	c := &change{d: d, e: docs.Check(d)}
	if fan < 2 || fan > api.MaxFan {
		c.fail(api.ErrArg)
	}
	if len(nums) > api.MaxPages {
		c.fail(api.ErrMany)
	}
	for at, num := range nums {
		i, ok := docs.Get(d, num)
		switch {
		case slices.Contains(nums[:at], num):
			c.fail(api.ErrTwice)
		case !ok:
			c.fail(api.ErrNone)
		case !isType(d, i.Obj, "Page"):
			c.fail(api.ErrPage)
		}
	}
	if c.e == api.OK {
		rebuild(c, nums, fan)
	}
	if c.e != api.OK {
		return api.Doc{}, c.e
	}
	return c.d, api.OK
}

// rebuild does the steps of Tree.
func rebuild(c *change, nums []int, fan int) {
	list, e := pages.List(c.d)
	var inner []int
	if e == api.OK {
		inner = innerNodes(c.d)
	}
	for _, num := range nums {
		if at := slices.IndexFunc(list, func(p api.Page) bool { return p.Num == num }); at >= 0 {
			o, e := own(c.d, list[at])
			c.fail(e)
			c.put(num, o)
		}
	}
	for n, num := range inner {
		if n > 0 {
			c.drop(num)
		}
	}
	root := 0
	if len(inner) > 0 {
		root = inner[0]
	} else {
		root = c.add()
	}
	kids, order := map[int][]int{}, []int(nil)
	row := slices.Clone(nums)
	for len(row) > fan && c.e == api.OK {
		var next []int
		for len(row) > 0 {
			node := c.add()
			n := min(fan, len(row))
			kids[node], row = row[:n], row[n:]
			next = append(next, node)
		}
		order = append(order, next...)
		row = next
	}
	kids[root] = row
	order = append(order, root)
	if c.e == api.OK {
		link(c, order, kids, root)
	}
}

// link gives the nodes of a tree their dictionaries.
func link(c *change, order []int, kids map[int][]int, root int) {
	counts := map[int]int{}
	refTo := func(num int) api.Object { return value.Ref(num, c.get(num).Gen) }
	for _, node := range order {
		list := value.Array()
		for _, kid := range kids[node] {
			list.Kids = append(list.Kids, refTo(kid))
			counts[node] += max(counts[kid], 1)
		}
		c.put(node, sample.Dict("Count Kids Type", value.Int(int64(counts[node])), list, value.Name("Pages")))
	}
	for _, node := range order {
		for _, kid := range kids[node] {
			o, e := value.Set(c.get(kid).Obj, "Parent", refTo(node))
			c.fail(e)
			c.put(kid, o)
		}
	}
	if c.e == api.OK {
		c.d, c.e = catalog.SetRoot(c.d, "Pages", refTo(root))
	}
}

// pagesOf returns the numbers of all items that are dictionaries of the type Page.
func pagesOf(d api.Doc) []int {
	var nums []int
	for _, i := range d.Items {
		if isType(d, i.Obj, "Page") {
			nums = append(nums, i.Num)
		}
	}
	return nums
}

// mixed returns some of the numbers in another order, and now and then one that is not among them, or one twice.
func mixed(seed *uint32, nums []int) []int {
	nums = slices.Clone(nums)
	for at := range nums {
		to := pick(seed, len(nums))
		nums[at], nums[to] = nums[to], nums[at]
	}
	if pick(seed, 2) == 0 {
		nums = nums[:pick(seed, len(nums)+1)]
	}
	if pick(seed, 30) == 0 {
		nums = append(nums, pick(seed, 30))
	}
	if len(nums) > 0 && pick(seed, 30) == 0 {
		nums = append(nums, nums[pick(seed, len(nums))])
	}
	return nums
}

// depths returns how deep the pages of a tree lie, and how many kids a node has at most.
func depths(d api.Doc) ([]int, int) {
	var list []int
	most := 0
	var visit func(o api.Object, depth int)
	visit = func(o api.Object, depth int) {
		o = docs.Follow(d, o)
		if isType(d, o, "Page") {
			list = append(list, depth)
			return
		}
		kids := docs.Path(d, o, "Kids").Kids
		most = max(most, len(kids))
		for _, kid := range kids {
			visit(kid, depth+1)
		}
	}
	visit(docs.Path(d, d.Trailer, "Root", "Pages"), 0)
	slices.Sort(list)
	return slices.Compact(list), most
}

// follows checks promise 36.4 for a tree that was built of d with the pages nums.
func follows(t *testing.T, d, got api.Doc, nums []int, fan int) {
	t.Helper()
	old, _ := pages.List(d)
	list, e := pages.List(got)
	if e == api.ErrPage && len(old) < len(nums) {
		return // a page that was in no tree has no box
	}
	if len(list) != len(nums) || e != api.OK {
		t.Errorf("Tree(%s, %v, %d) has the pages %v, %d", brief(d), nums, fan, list, e)
		return
	}
	for n, p := range list {
		at := slices.IndexFunc(old, func(p api.Page) bool { return p.Num == nums[n] })
		if p.Num != nums[n] || at >= 0 && !samePage(p, old[at]) {
			t.Errorf("page %d of Tree(%s, %v, %d) is %v", n, brief(d), nums, fan, p)
		}
	}
	if levels, most := depths(got); len(levels) > 1 || most > fan {
		t.Errorf("the pages of Tree(%s, %v, %d) are on the levels %v, with up to %d kids", brief(d), nums, fan, levels, most)
	}
}

// Promises 36.2 and 36.4, by the words of the chapter.
func TestTreeByTheWords(t *testing.T) {
	seed := uint32(36)
	errs := map[api.Errno]int{}
	for _, d := range append(sample.Trees(), sample.Webs()...) {
		for range 2 {
			nums, fan := mixed(&seed, pagesOf(d)), 1+pick(&seed, 6)
			want, wantErr := tree(d, nums, fan)
			was := slices.Clone(nums)
			got, e := build.Tree(d, nums, fan)
			errs[e]++
			isDoc(t, "Tree", d, got, e, want, wantErr)
			if !slices.Equal(nums, was) {
				t.Errorf("Tree has changed the numbers %v", was)
			}
			if e == api.OK {
				follows(t, d, want, nums, fan)
			}
		}
	}
	for _, e := range []api.Errno{api.OK, api.ErrArg, api.ErrTwice, api.ErrNone, api.ErrPage} {
		if errs[e] < 5 {
			t.Errorf("the errors are %v", errs)
		}
	}
}

// Promise 36.1, by the words of the chapter.
func TestOwnByTheWords(t *testing.T) {
	seed := uint32(37)
	errs := map[api.Errno]int{}
	boxes := []api.Rect{{}, {X0: 1, Y0: 10000, X1: -20000, Y1: 30001}, {X1: api.MaxFix, Y1: -api.MaxFix}, {X0: api.MaxInt * api.One}}
	for _, d := range sample.Trees() {
		for range 2 {
			p := api.Page{Num: pick(&seed, 12), Rotate: []int{0, 90, -5, 360}[pick(&seed, 4)], Media: boxes[pick(&seed, 4)], Crop: boxes[pick(&seed, 4)], Res: []api.Object{sample.Dict(""), sample.Dict("A", ref(1)), value.Null(), {Kind: 99}, value.Int(1)}[pick(&seed, 5)]}
			if nums := pagesOf(d); len(nums) > 0 && pick(&seed, 4) > 0 {
				p.Num = nums[pick(&seed, len(nums))]
			}
			want, wantErr := own(d, p)
			got, e := build.Own(d, p)
			errs[e]++
			if !value.Same(got, want) || e != wantErr {
				t.Errorf("Own(%s, %v) = %s, %d, want %s, %d", brief(d), p, brief(got), e, brief(want), wantErr)
			}
			was := sample.Copy(d)
			sample.Spoil(got)
			if !docs.Same(d, was) {
				t.Errorf("Own(%s, %v) shares memory", brief(was), p)
			}
		}
	}
	for _, e := range []api.Errno{api.OK, api.ErrNone, api.ErrPage, api.ErrKind} {
		if errs[e] < 20 {
			t.Errorf("the errors are %v", errs)
		}
	}
}

// Promise 36.3, by the words of the chapter.
func TestInsertRemoveMoveByTheWords(t *testing.T) {
	seed := uint32(38)
	page := sample.Dict("MediaBox Type", value.Array(value.Int(1), value.Int(2), value.Int(3), value.Int(4)), value.Name("Anything"))
	for _, d := range append(sample.Trees(), sample.Webs()...) {
		list, listErr := pages.List(d)
		var nums []int
		for _, p := range list {
			nums = append(nums, p.Num)
		}
		from, to := pick(&seed, len(nums)+2)-1, pick(&seed, len(nums)+2)-1
		inserts(t, d, nums, listErr, from, page)
		removes(t, d, nums, listErr, from)
		moves(t, d, nums, listErr, from, to)
	}
}

// inserts checks an answer of Insert.
func inserts(t *testing.T, d api.Doc, nums []int, wantErr api.Errno, at int, page api.Object) {
	t.Helper()
	var want api.Doc
	wantNum := 0
	if wantErr == api.OK && (at < 0 || at > len(nums)) {
		wantErr = api.ErrRange
	}
	if wantErr == api.OK {
		typed, _ := value.Set(page, "Type", value.Name("Page"))
		if want, wantNum, wantErr = docs.Add(d, typed); wantErr == api.OK {
			want, wantErr = tree(want, slices.Insert(slices.Clone(nums), at, wantNum), api.MaxFan)
		}
		if wantErr != api.OK {
			want, wantNum = api.Doc{}, 0
		}
	}
	got, num, e := build.Insert(d, at, page)
	if num != wantNum {
		t.Errorf("Insert(%s, %d) = %d, want %d", brief(d), at, num, wantNum)
	}
	isDoc(t, "Insert", d, got, e, want, wantErr)
}

// removes checks an answer of Remove.
func removes(t *testing.T, d api.Doc, nums []int, wantErr api.Errno, at int) {
	t.Helper()
	var want api.Doc
	if wantErr == api.OK && (at < 0 || at >= len(nums)) {
		wantErr = api.ErrRange
	}
	if wantErr == api.OK {
		want, wantErr = tree(d, slices.Delete(slices.Clone(nums), at, at+1), api.MaxFan)
		if wantErr == api.OK {
			want, wantErr = docs.Drop(want, nums[at])
		}
	}
	got, e := build.Remove(d, at)
	isDoc(t, "Remove", d, got, e, want, wantErr)
}

// moves checks an answer of Move.
func moves(t *testing.T, d api.Doc, nums []int, wantErr api.Errno, from, to int) {
	t.Helper()
	var want api.Doc
	if wantErr == api.OK && (from < 0 || from >= len(nums) || to < 0 || to >= len(nums)) {
		wantErr = api.ErrRange
	}
	if wantErr == api.OK {
		order := slices.Delete(slices.Clone(nums), from, from+1)
		order = append(slices.Clone(order[:to]), append([]int{nums[from]}, order[to:]...)...)
		want, wantErr = tree(d, order, api.MaxFan)
	}
	got, e := build.Move(d, from, to)
	isDoc(t, "Move", d, got, e, want, wantErr)
}
