package build_test

import (
	"fmt"
	"math"
	"slices"
	"strings"
	"testing"
	"time"

	"foliant/api"
	"foliant/build"
	"foliant/catalog"
	"foliant/docs"
	"foliant/pages"
	"foliant/sample"
	"foliant/value"
)

// brief shows the beginning of anything.
func brief(x any) string { return fmt.Sprintf("%.700s", fmt.Sprintf("%q", fmt.Sprint(x))) }

// item returns an item of generation 0.
func item(num int, o api.Object) api.Item { return api.Item{Num: num, Obj: o} }

// ref returns a reference of generation 0.
func ref(num int) api.Object { return sample.Ref(num, 0) }

// isDoc holds a result against what it should be, and its memory against that of the document it comes from.
func isDoc(t *testing.T, what string, from, got api.Doc, e api.Errno, want api.Doc, wantErr api.Errno) {
	t.Helper()
	result := sample.Copy(got)
	if wrong := sample.Wrong(from, got, e, want, wantErr); wrong != "" {
		t.Errorf("%s of %s = %s, want %s: %s", what, brief(from), brief(result), brief(want), wrong)
	}
}

func samePage(a, b api.Page) bool {
	return a.Num == b.Num && a.Media == b.Media && a.Crop == b.Crop && a.Rotate == b.Rotate && value.Same(a.Res, b.Res)
}

// newDoc returns a new document with so many pages.
func newDoc(n int) api.Doc {
	d, _ := catalog.New(n)
	return d
}

// numbers returns the numbers of the pages, or of none.
func numbers(d api.Doc) []int {
	list, _ := pages.List(d)
	var nums []int
	for _, p := range list {
		nums = append(nums, p.Num)
	}
	return nums
}

// with returns a document with another value for a key of an item.
func with(d api.Doc, num int, key string, v api.Object) api.Doc {
	d = sample.Copy(d)
	for i := range d.Items {
		if d.Items[i].Num == num {
			d.Items[i].Obj, _ = value.Set(d.Items[i].Obj, key, v)
		}
	}
	return d
}

// full returns a dictionary of a type that has room for so many other keys.
func full(kind string, room int) api.Object {
	o, _ := value.Set(sample.Broad(api.MaxKids-1-room), "Type", value.Name(kind))
	return o
}

// Promise 36.2, by the example of the chapter.
func TestExample(t *testing.T) {
	d := newDoc(3)
	letter := value.Array(value.Int(0), value.Int(0), value.Int(612), value.Int(792))
	page := func(parent int) api.Object {
		return sample.Dict("MediaBox Parent Resources Type", letter, ref(parent), sample.Dict(""), value.Name("Page"))
	}
	inner := func(count int64, nums ...int) api.Object {
		kids := value.Array()
		for _, num := range nums {
			kids.Kids = append(kids.Kids, ref(num))
		}
		return sample.Dict("Count Kids Type", value.Int(count), kids, value.Name("Pages"))
	}
	below := func(o api.Object) api.Object { o, _ = value.Set(o, "Parent", ref(2)); return o }
	want := sample.Doc(1, d.Items[0], item(2, inner(3, 6, 7)), item(3, page(6)), item(4, page(6)), item(5, page(7)), item(6, below(inner(2, 3, 4))), item(7, below(inner(1, 5))))
	got, e := build.Tree(d, []int{3, 4, 5}, 2)
	isDoc(t, "Tree", d, got, e, want, api.OK)
	want = sample.Doc(1, d.Items[0], item(2, inner(3, 5, 3, 4)), item(3, page(2)), item(4, page(2)), item(5, page(2)))
	again, _ := build.Tree(d, []int{3, 4, 5}, 2)
	got, e = build.Tree(again, []int{5, 3, 4}, 3)
	isDoc(t, "Tree", again, got, e, want, api.OK)
	if got, e := build.Move(d, 0, 2); !slices.Equal(numbers(got), []int{4, 5, 3}) || e != api.OK {
		t.Errorf("Move has the pages %v, %d", numbers(got), e)
	}
}

// Promise 36.1.
func TestOwn(t *testing.T) {
	d := with(with(newDoc(2), 4, "CropBox", value.Int(1)), 4, "Rotate", value.Name("x"))
	box := api.Rect{X0: 1, Y0: -20000, X1: 70000, Y1: 5}
	boxed := value.Array(value.Real(1), value.Int(-2), value.Int(7), value.Real(5))
	res := sample.Dict("A", ref(1))
	for _, c := range []struct {
		p    api.Page
		want api.Object
	}{
		{api.Page{Num: 4, Media: box, Crop: box, Res: res}, sample.Dict("MediaBox Parent Resources Type", boxed, ref(2), res, value.Name("Page"))},
		{api.Page{Num: 4, Media: box, Rotate: 90, Res: res}, sample.Dict("CropBox MediaBox Parent Resources Rotate Type", value.Array(value.Int(0), value.Int(0), value.Int(0), value.Int(0)), boxed, ref(2), res, value.Int(90), value.Name("Page"))},
		{api.Page{Num: 3, Crop: box, Rotate: -7}, sample.Dict("CropBox MediaBox Parent Rotate Type", boxed, value.Array(value.Int(0), value.Int(0), value.Int(0), value.Int(0)), ref(2), value.Int(-7), value.Name("Page"))},
	} {
		if got, e := build.Own(d, c.p); !value.Same(got, c.want) || e != api.OK {
			t.Errorf("Own(%v) = %s, %d, want %s", c.p, brief(got), e, brief(c.want))
		}
	}
}

// Promise 36.1: the errors, in their order.
func TestOwnErrors(t *testing.T) {
	d := newDoc(1)
	d.Items = append(d.Items, item(4, value.Array()), item(5, full("Page", 2)), item(6, sample.Dict("Type", ref(7))), item(7, value.Name("Page")), item(8, api.Object{Kind: api.KStream, Keys: []string{"Type"}, Kids: []api.Object{value.Name("Page")}}), item(9, full("Page", 1)))
	res, far := sample.Dict("A", value.Int(1)), api.Rect{X0: api.MaxFix + 1}
	for _, c := range []struct {
		p    api.Page
		want api.Errno
	}{
		{api.Page{Num: 10}, api.ErrNone}, {api.Page{Num: 0}, api.ErrNone}, {api.Page{Num: -1}, api.ErrNone}, {api.Page{Num: math.MaxInt, Res: api.Object{Kind: 99}}, api.ErrNone},
		{api.Page{Num: 1}, api.ErrPage}, {api.Page{Num: 2}, api.ErrPage}, {api.Page{Num: 4}, api.ErrPage}, {api.Page{Num: 7}, api.ErrPage}, {api.Page{Num: 8, Res: api.Object{Kind: 99}}, api.ErrPage},
		{api.Page{Num: 3}, api.OK}, {api.Page{Num: 6}, api.OK},
		{api.Page{Num: 3, Res: api.Object{Kind: 99}, Media: far}, api.ErrKind}, {api.Page{Num: 3, Res: api.Object{Kind: api.KStream}}, api.ErrKind}, {api.Page{Num: 3, Res: sample.Nest(res, api.MaxDepth-2), Rotate: math.MaxInt}, api.ErrDeep},
		{api.Page{Num: 3, Media: far}, api.ErrRange}, {api.Page{Num: 3, Crop: far}, api.ErrRange}, {api.Page{Num: 3, Rotate: api.MaxInt + 1}, api.ErrRange}, {api.Page{Num: 3, Rotate: math.MinInt}, api.ErrRange},
		{api.Page{Num: 3, Media: api.Rect{X0: math.MaxInt64, Y1: math.MinInt64}}, api.ErrRange},
		{api.Page{Num: 5, Res: res}, api.OK}, {api.Page{Num: 5, Res: res, Rotate: 90}, api.ErrMany}, {api.Page{Num: 5, Res: res, Media: api.Rect{X1: 1}}, api.ErrMany}, {api.Page{Num: 5, Rotate: 90}, api.OK},
		{api.Page{Num: 9, Res: res, Media: far}, api.ErrMany}, {api.Page{Num: 5, Res: res, Media: far, Rotate: 90}, api.ErrRange}, {api.Page{Num: 5, Res: res, Rotate: math.MaxInt}, api.ErrMany},
	} {
		if got, e := build.Own(d, c.p); e != c.want || e != api.OK && !value.Same(got, api.Object{}) {
			t.Errorf("Own(%s) = %s, %d, want %d", brief(c.p), brief(got), e, c.want)
		}
	}
	for _, b := range sample.BadDocs() {
		if got, e := build.Own(b.Is, api.Page{Num: 99, Res: api.Object{Kind: 99}}); e != b.Err || !value.Same(got, api.Object{}) {
			t.Errorf("Own(%s) = %s, %d, want %d", brief(b.Is), brief(got), e, b.Err)
		}
	}
}

// Promise 36.2: the errors, in their order.
func TestTreeErrors(t *testing.T) {
	d := newDoc(3)
	d.Items = append(d.Items, item(6, value.Array()), item(7, full("Page", 0)), item(8, sample.Dict("Type", value.Name("page"))))
	var many []int
	for n := range api.MaxPages + 1 {
		many = append(many, n)
	}
	last := newDoc(3)
	last.Items = append(last.Items, item(api.MaxNum-1, value.Null()))
	for _, c := range []struct {
		d    api.Doc
		nums []int
		fan  int
		want api.Errno
	}{
		{d, nil, 1, api.ErrArg}, {d, nil, 17, api.ErrArg}, {d, nil, 0, api.ErrArg}, {d, []int{3, 3}, -2, api.ErrArg}, {d, many, math.MaxInt, api.ErrArg}, {d, nil, math.MinInt, api.ErrArg},
		{d, many, 2, api.ErrMany}, {d, many[:api.MaxPages], 2, api.ErrNone},
		{d, []int{3, 4, 3, 9}, 2, api.ErrTwice}, {d, []int{3, 9, 3}, 2, api.ErrNone}, {d, []int{9, 9}, 2, api.ErrNone}, {d, []int{3, 2, 3}, 2, api.ErrPage}, {d, []int{2, 2}, 2, api.ErrPage},
		{d, []int{0}, 2, api.ErrNone}, {d, []int{-1}, 2, api.ErrNone}, {d, []int{math.MinInt}, 2, api.ErrNone}, {d, []int{math.MaxInt}, 2, api.ErrNone}, {d, []int{1}, 2, api.ErrPage}, {d, []int{6}, 2, api.ErrPage}, {d, []int{8}, 2, api.ErrPage},
		{d, []int{7}, 2, api.ErrMany},
		{with(d, 2, "Resources", value.Array()), []int{3}, 2, api.OK},
		{last, []int{3, 4, 5}, 2, api.ErrFull}, {last, []int{3, 4, 5}, 3, api.OK}, {d, []int{3, 4, 5}, 16, api.OK},
	} {
		want, wantErr := tree(c.d, c.nums, c.fan)
		got, e := build.Tree(c.d, c.nums, c.fan)
		if e != c.want || e != wantErr {
			t.Errorf("Tree of %v, %d = %d, want %d", brief(c.nums), c.fan, e, c.want)
		}
		isDoc(t, "Tree", c.d, got, e, want, wantErr)
	}
	for _, b := range sample.BadDocs() {
		for _, nums := range [][]int{nil, {1}, {99, 99}} {
			got, e := build.Tree(b.Is, nums, 1)
			isDoc(t, "Tree", b.Is, got, e, api.Doc{}, b.Err)
		}
	}
}

// Promise 36.2: what the steps of Tree can fail with, and in which order.
func TestStepErrors(t *testing.T) {
	box := value.Array(value.Int(0), value.Int(0), value.Int(1), value.Int(1))
	page := sample.Dict("MediaBox Type", box, value.Name("Page"))
	deep := sample.Dict("A", sample.Nest(value.Int(1), api.MaxDepth-2))
	crowded, _ := value.Set(full("Page", 1), "MediaBox", box)
	inner := func(nums ...int) api.Object {
		kids := value.Array()
		for _, num := range nums {
			kids.Kids = append(kids.Kids, ref(num))
		}
		return sample.Dict("Kids Type", kids, value.Name("Pages"))
	}
	withRes := func(o, res api.Object) api.Object { o, _ = value.Set(o, "Resources", res); return o }
	for i, c := range []struct {
		d    api.Doc
		nums []int
		want api.Errno
	}{
		// What a page inherits is too deep for it, or one entry too many.
		{sample.Doc(1, item(1, sample.Dict("Pages", ref(2))), item(2, withRes(inner(3, 4), ref(5))), item(3, page), item(4, page), item(5, deep)), []int{4}, api.ErrDeep},
		{sample.Doc(1, item(1, sample.Dict("Pages", ref(2))), item(2, inner(3, 4)), item(3, crowded), item(4, withRes(page, ref(5))), item(5, deep)), []int{3, 4}, api.ErrMany},
		{sample.Doc(1, item(1, sample.Dict("Pages", ref(2))), item(2, inner(3, 4)), item(3, crowded), item(4, withRes(page, ref(5))), item(5, deep)), []int{4, 3}, api.ErrDeep},
		{sample.Doc(1, item(1, sample.Dict("Pages", ref(2))), item(2, inner(3, 4)), item(3, crowded), item(4, page)), []int{4}, api.OK},
		// The catalog is a node of the tree, or a page, or the root.
		{sample.Doc(1, item(1, sample.Dict("Kids Pages Type", value.Array(ref(3)), ref(2), value.Name("Pages"))), item(2, inner(1)), item(3, page)), []int{3}, api.ErrTrail},
		{sample.Doc(1, item(1, sample.Dict("Kids Pages Type", value.Array(ref(3)), ref(2), value.Name("Pages"))), item(2, inner(1)), item(3, page), item(api.MaxNum, page)), []int{3, api.MaxNum}, api.ErrTrail},
		{sample.Doc(1, item(1, sample.Dict("Kids Pages Type", value.Array(ref(3)), ref(2), value.Name("Pages"))), item(2, inner(1)), item(3, crowded)), []int{3}, api.ErrMany},
		{sample.Doc(1, item(1, sample.Dict("MediaBox Pages Type", box, ref(1), value.Name("Page"))), item(3, page)), []int{3, 1}, api.OK},
		{sample.Doc(1, item(1, sample.Dict("A Kids Pages Type", ref(4), value.Array(ref(3)), ref(1), value.Name("Pages"))), item(3, page)), []int{3}, api.OK},
		// There is no tree, so that one is made, for which there may be no room.
		{sample.Doc(1, item(1, sample.Dict("")), item(3, page)), []int{3}, api.OK},
		{sample.Doc(1, item(1, sample.Dict("")), item(api.MaxNum, page)), []int{api.MaxNum}, api.ErrFull},
		{sample.Doc(1, item(1, sample.Dict("")), item(api.MaxNum, full("Page", 0))), []int{api.MaxNum}, api.ErrFull},
		{sample.Doc(1, item(1, sample.Dict("")), item(api.MaxNum-1, full("Page", 0))), []int{api.MaxNum - 1}, api.ErrMany},
		{sample.Doc(1, item(1, sample.Dict("")), item(3, full("Page", 1))), []int{3}, api.OK},
		{sample.Doc(1, item(1, full("Catalog", 0)), item(3, page)), []int{3}, api.ErrMany},
		{sample.Doc(1, item(1, full("Catalog", 1)), item(3, page)), nil, api.OK},
		{sample.Doc(1, item(1, sample.Dict("Pages", ref(3))), item(3, page)), []int{3}, api.OK},
		{sample.Doc(1, item(1, sample.Dict("Pages", ref(3))), item(3, page), item(9, page)), []int{9, 3}, api.OK},
		// A node that is dropped makes room.
		{sample.Doc(1, item(1, sample.Dict("Pages", ref(2))), item(2, inner(api.MaxNum)), item(3, page), item(4, page), item(5, page), item(api.MaxNum, inner(3, 4, 5))), []int{3, 4, 5}, api.OK},
		{sample.Doc(1, item(1, sample.Dict("Pages", ref(api.MaxNum))), item(3, page), item(4, page), item(5, page), item(api.MaxNum, inner(3, 4, 5))), []int{3, 4, 5}, api.ErrFull},
		// A tree that has an error is no tree: its nodes stay.
		{sample.Doc(1, item(1, sample.Dict("Pages", ref(2))), item(2, inner(3, 3)), item(3, page)), []int{3}, api.OK},
	} {
		want, wantErr := tree(c.d, c.nums, 2)
		got, e := build.Tree(c.d, c.nums, 2)
		if e != c.want || wantErr != c.want {
			t.Errorf("Tree %d = %d, want %d", i, e, c.want)
		}
		isDoc(t, "Tree", c.d, got, e, want, wantErr)
	}
}

// Promise 36.2: generations.
func TestGenerations(t *testing.T) {
	d := api.Doc{Trailer: sample.Dict("Root", sample.Ref(9, 3)), Items: []api.Item{
		{Num: 2, Gen: 4, Obj: sample.Dict("Kids MediaBox Type", value.Array(sample.Ref(5, 1), ref(7)), value.Array(value.Int(0), value.Int(0), value.Int(1), value.Int(1)), value.Name("Pages"))},
		{Num: 5, Gen: 1, Obj: sample.Dict("Type", value.Name("Page"))},
		item(7, sample.Dict("Type", value.Name("Page"))),
		{Num: 9, Gen: 3, Obj: sample.Dict("Pages", sample.Ref(2, 4))}}}
	got, e := build.Tree(d, []int{7, 5}, 2)
	root, _ := docs.Get(got, 2)
	kids, _ := value.Get(root.Obj, "Kids")
	if !value.Same(kids, value.Array(ref(7), sample.Ref(5, 1))) || root.Gen != 4 || e != api.OK {
		t.Errorf("the root is %s, %d", brief(root), e)
	}
	for num, gen := range map[int]int{5: 1, 7: 0} {
		i, _ := docs.Get(got, num)
		if parent, _ := value.Get(i.Obj, "Parent"); !value.Same(parent, sample.Ref(2, 4)) || i.Gen != gen {
			t.Errorf("page %d is %s", num, brief(i))
		}
	}
}

// Promises 36.2 and 36.4: as many pages as there may be, with each fan, and in no more time than that takes.
func TestManyPages(t *testing.T) {
	begin := time.Now()
	for fan := 2; fan <= api.MaxFan; fan++ {
		d := newDoc(api.MaxPages)
		nums := numbers(d)
		slices.Reverse(nums)
		got, e := build.Tree(d, nums, fan)
		if e != api.OK || !slices.Equal(numbers(got), nums) {
			t.Fatalf("Tree of all pages with the fan %d = %d", fan, e)
		}
		follows(t, d, got, nums, fan)
		again, e := build.Tree(got, nums[:5], 2)
		if e != api.OK || len(again.Items) != api.MaxPages+2+3+2 {
			t.Errorf("Tree of five pages has %d items, %d", len(again.Items), e)
		}
	}
	d := newDoc(api.MaxPages)
	if got, num, e := build.Insert(d, 0, sample.Dict("")); num != 0 || len(got.Items) > 0 || e != api.ErrMany {
		t.Errorf("Insert of one more = %d, %d", num, e)
	}
	less, e := build.Remove(d, 7)
	if nums := numbers(less); len(nums) != api.MaxPages-1 || nums[7] != 11 || e != api.OK {
		t.Errorf("Remove leaves %d pages, %d", len(nums), e)
	}
	box := value.Array(value.Int(0), value.Int(0), value.Int(1), value.Int(1))
	more, num, e := build.Insert(less, 7, sample.Dict("MediaBox", box))
	if nums := numbers(more); len(nums) != api.MaxPages || nums[7] != num || e != api.OK {
		t.Errorf("Insert leaves %d pages, %d", len(nums), e)
	}
	moved, e := build.Move(more, api.MaxPages-1, 0)
	if nums := numbers(moved); len(nums) != api.MaxPages || nums[0] != api.MaxPages+2 || e != api.OK {
		t.Errorf("Move leaves %d pages, %d", len(nums), e)
	}
	if time.Since(begin) > 30*time.Second {
		t.Errorf("it took %v", time.Since(begin))
	}
}

// Promise 36.3: the errors, in their order.
func TestInsertErrors(t *testing.T) {
	d := newDoc(2)
	page := sample.Dict("MediaBox", value.Int(1))
	broken := with(d, 2, "Kids", value.Array(ref(3), ref(3)))
	last := newDoc(1)
	last.Items = append(last.Items, item(api.MaxNum, value.Null()))
	crammed := newDoc(api.MaxPages)
	crammed.Items = append(crammed.Items, item(api.MaxNum, value.Null()))
	for _, c := range []struct {
		d    api.Doc
		at   int
		page api.Object
		want api.Errno
	}{
		{d, 0, value.Null(), api.ErrKind}, {d, 9, value.Array(), api.ErrKind}, {broken, 0, ref(3), api.ErrKind}, {d, 0, api.Object{Kind: api.KStream}, api.ErrKind},
		{broken, 9, page, api.ErrLoop}, {with(d, 3, "MediaBox", value.Null()), 0, page, api.ErrPage}, {with(d, 2, "Kids", value.Null()), -1, page, api.ErrPage},
		{d, -1, page, api.ErrRange}, {d, 3, page, api.ErrRange}, {d, math.MinInt, page, api.ErrRange}, {d, math.MaxInt, page, api.ErrRange}, {last, 2, page, api.ErrRange},
		{d, 0, sample.Broad(api.MaxKids), api.ErrMany}, {last, 0, sample.Broad(api.MaxKids), api.ErrMany}, {last, 0, page, api.ErrFull}, {d, 0, full("x", 0), api.ErrMany},
		{crammed, 0, page, api.ErrMany}, {crammed, -1, page, api.ErrRange},
		{newDoc(api.MaxPages), api.MaxPages + 1, page, api.ErrRange}, {newDoc(api.MaxPages), 0, sample.Broad(api.MaxKids), api.ErrMany},
		{d, 0, sample.Dict("A", sample.Nest(value.Array(), api.MaxDepth-2)), api.OK}, {d, 2, full("Page", 1), api.OK},
	} {
		got, num, e := build.Insert(c.d, c.at, c.page)
		if e != c.want || e != api.OK && (num != 0 || len(got.Items) > 0) {
			t.Errorf("Insert of %s at %d = %d, %d, want %d", brief(c.page), c.at, num, e, c.want)
		}
	}
	for _, b := range sample.BadObjects() {
		got, num, e := build.Insert(broken, 9, b.Is)
		isDoc(t, "Insert", broken, got, e, api.Doc{}, b.Err)
		if num != 0 {
			t.Errorf("Insert with an error = %d", num)
		}
	}
	for _, b := range sample.BadDocs() {
		got, num, e := build.Insert(b.Is, 9, api.Object{Kind: 99})
		isDoc(t, "Insert", b.Is, got, e, api.Doc{}, b.Err)
		if num != 0 {
			t.Errorf("Insert with an error = %d", num)
		}
	}
}

// Promise 36.3: the errors of Remove and Move, in their order.
func TestRemoveAndMoveErrors(t *testing.T) {
	d := newDoc(2)
	removes := func(d api.Doc, at int, want api.Errno) {
		t.Helper()
		got, e := build.Remove(d, at)
		isDoc(t, "Remove", d, got, e, api.Doc{}, want)
	}
	moves := func(d api.Doc, from, to int, want api.Errno) {
		t.Helper()
		got, e := build.Move(d, from, to)
		isDoc(t, "Move", d, got, e, api.Doc{}, want)
	}
	for _, b := range sample.BadDocs() {
		removes(b.Is, 9, b.Err)
		moves(b.Is, 9, 9, b.Err)
	}
	broken := with(d, 2, "Kids", value.Array(ref(3), ref(3)))
	removes(broken, 9, api.ErrLoop)
	moves(broken, 9, -1, api.ErrLoop)
	for _, at := range []int{math.MinInt, -1, 2, math.MaxInt} {
		removes(d, at, api.ErrRange)
		moves(d, at, 0, api.ErrRange)
		moves(d, 1, at, api.ErrRange)
		moves(d, at, at, api.ErrRange)
		removes(newDoc(0), at, api.ErrRange)
	}
	removes(newDoc(0), 0, api.ErrRange)
	moves(newDoc(0), 0, 0, api.ErrRange)
	box := value.Array(value.Int(0), value.Int(0), value.Int(1), value.Int(1))
	removes(sample.Doc(1, item(1, sample.Dict("MediaBox Pages Type", box, ref(1), value.Name("Page")))), 0, api.ErrTrail)
}

// Promises 36.3 and 36.4: all places.
func TestPlaces(t *testing.T) {
	d := newDoc(4)
	page := sample.Dict("MediaBox Rotate Type", value.Array(value.Int(0), value.Int(0), value.Int(1), value.Int(1)), value.Int(90), value.Name("Leaf"))
	for at := range 5 {
		got, num, e := build.Insert(d, at, page)
		want := slices.Insert([]int{3, 4, 5, 6}, at, 7)
		if p, _ := pages.Get(got, at); num != 7 || e != api.OK || !slices.Equal(numbers(got), want) || p.Rotate != 90 {
			t.Errorf("Insert at %d = %d, %d, with the pages %v", at, num, e, numbers(got))
		}
	}
	if strings.Contains(brief(page), "Parent") || len(page.Keys) != 3 {
		t.Errorf("Insert has changed the page: %s", brief(page))
	}
	for at := range 4 {
		got, e := build.Remove(d, at)
		if want := slices.Delete([]int{3, 4, 5, 6}, at, at+1); e != api.OK || !slices.Equal(numbers(got), want) {
			t.Errorf("Remove at %d = %d, with the pages %v", at, e, numbers(got))
		}
		if _, ok := docs.Get(got, at+3); ok {
			t.Errorf("Remove at %d leaves the page's item", at)
		}
		for to := range 4 {
			got, e := build.Move(d, at, to)
			list := numbers(got)
			rest := slices.DeleteFunc(slices.Clone(list), func(num int) bool { return num == at+3 })
			if e != api.OK || len(list) != 4 || list[to] != at+3 || !slices.IsSorted(rest) {
				t.Errorf("Move from %d to %d = %d, with the pages %v", at, to, e, list)
			}
		}
	}
	got, e := build.Remove(newDoc(1), 0)
	if n, err := pages.Count(got); n != 0 || e != api.OK || err != api.OK {
		t.Errorf("Remove of the only page = %d, and leaves %d pages, %d", e, n, err)
	}
}
