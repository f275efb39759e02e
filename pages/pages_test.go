package pages_test

import (
	"fmt"
	"math"
	"slices"
	"strings"
	"testing"
	"time"

	"foliant/api"
	"foliant/docs"
	"foliant/pages"
	"foliant/sample"
	"foliant/value"
	"foliant/web"
)

// brief shows the beginning of anything.
func brief(x any) string { return fmt.Sprintf("%.700s", fmt.Sprintf("%q", fmt.Sprint(x))) }

// item returns an item of generation 0.
func item(num int, o api.Object) api.Item { return api.Item{Num: num, Obj: o} }

// ref returns a reference of generation 0.
func ref(num int) api.Object { return sample.Ref(num, 0) }

func samePage(a, b api.Page) bool {
	return a.Num == b.Num && a.Media == b.Media && a.Crop == b.Crop && a.Rotate == b.Rotate && value.Same(a.Res, b.Res)
}

func samePages(a, b []api.Page) bool { return slices.EqualFunc(a, b, samePage) }

// ints returns the array of integers.
func ints(list ...int64) api.Object {
	var kids []api.Object
	for _, n := range list {
		kids = append(kids, value.Int(n))
	}
	return value.Array(kids...)
}

// entries are those of a dictionary.
type entries map[string]api.Object

// leaf returns a page with the given entries and a box.
func leaf(more entries) api.Object {
	all := entries{"Type": value.Name("Page"), "MediaBox": ints(0, 0, 100, 200)}
	for key, v := range more {
		all[key] = v
	}
	return sample.Entries(all)
}

// inner returns a node with kids of the given numbers.
func inner(nums ...int) api.Object {
	kids := value.Array()
	for _, num := range nums {
		kids.Kids = append(kids.Kids, ref(num))
	}
	return sample.Entries(entries{"Type": value.Name("Pages"), "Kids": kids})
}

// with returns a dictionary with another entry, or without it if that is null.
func with(o api.Object, key string, v api.Object) api.Object {
	o, _ = value.Set(o, key, v)
	return o
}

// treeOf returns a document whose page tree has the items 2 and following ones, of which 2 is the root.
func treeOf(nodes ...api.Object) api.Doc {
	d := sample.Doc(1, item(1, sample.Dict("Pages", ref(2))))
	for i, o := range nodes {
		d.Items = append(d.Items, item(i+2, o))
	}
	return d
}

// fails checks that a document has a page tree with an error, which all functions return.
func fails(t *testing.T, d api.Doc, want api.Errno) {
	t.Helper()
	if list, e := pages.List(d); len(list) > 0 || e != want {
		t.Errorf("List(%s) = %v, %d, want %d", brief(d), list, e, want)
	}
	if n, e := pages.Count(d); n != 0 || e != want {
		t.Errorf("Count(%s) = %d, %d, want %d", brief(d), n, e, want)
	}
	if nums, e := pages.Inner(d); len(nums) > 0 || e != want {
		t.Errorf("Inner(%s) = %v, %d, want %d", brief(d), nums, e, want)
	}
	for _, n := range []int{math.MinInt, -1, 0, 1, math.MaxInt} {
		if p, e := pages.Get(d, n); !samePage(p, api.Page{}) || e != want {
			t.Errorf("Get(%s, %d) = %v, %d, want %d", brief(d), n, p, e, want)
		}
		if s, e := pages.Content(d, n); s != "" || e != want {
			t.Errorf("Content(%s, %d) = %q, %d, want %d", brief(d), n, s, e, want)
		}
	}
	for num := range 6 {
		if at, ok := pages.Place(d, num); at != 0 || ok {
			t.Errorf("Place(%s, %d) = %d, %v", brief(d), num, at, ok)
		}
	}
}

// Promise 35.1, by the example of the chapter.
func TestExamples(t *testing.T) {
	d := treeOf(with(inner(3), "MediaBox", ints(0, 0, 10, 20)), with(leaf(nil), "MediaBox", value.Null()))
	want := api.Page{Num: 3, Media: api.Rect{X1: 100000, Y1: 200000}, Crop: api.Rect{X1: 100000, Y1: 200000}, Res: sample.Dict("")}
	if p, e := pages.Get(d, 0); !samePage(p, want) || e != api.OK {
		t.Errorf("Get = %v, %d, want %v", p, e, want)
	}
	if r, e := pages.Rect(d, ints(3, 4, 1, 2)); r != (api.Rect{X0: 10000, Y0: 20000, X1: 30000, Y1: 40000}) || e != api.OK {
		t.Errorf("Rect = %v, %d", r, e)
	}
}

// Promise 35.1: the errors of documents come first.
func TestInvalidDocuments(t *testing.T) {
	for _, b := range sample.BadDocs() {
		fails(t, b.Is, b.Err)
	}
}

// Promise 35.1: the errors of the tree, and which comes first.
func TestTreeErrors(t *testing.T) {
	page, root := leaf(nil), func(o api.Object) api.Doc { return treeOf(inner(3), o) }
	for _, o := range []api.Object{value.Null(), value.Int(3), value.Int(-3), page, value.Array(ref(3)), ref(9), sample.Ref(3, 1), ref(4)} {
		d := root(page)
		d.Items[0].Obj = with(d.Items[0].Obj, "Pages", o)
		d.Items = append(d.Items, item(4, value.Array()))
		fails(t, d, api.ErrPage)
		d = root(page)
		d.Items[1].Obj = with(d.Items[1].Obj, "Kids", value.Array(ref(3), o))
		d.Items = append(d.Items, item(4, api.Object{Kind: api.KStream, Keys: page.Keys, Kids: page.Kids}))
		fails(t, d, api.ErrPage)
	}
	for _, kind := range []api.Object{value.Null(), value.Name("page"), value.Name(""), value.String("Page"), value.Name("Catalog"), value.Array(value.Name("Page")), ref(9), ref(3), value.Int(0)} {
		fails(t, root(with(page, "Type", kind)), api.ErrPage)
	}
	for _, kids := range []api.Object{value.Null(), ref(2), sample.Dict(""), ref(9), value.Name("Kids"), value.String("")} {
		fails(t, root(with(inner(), "Kids", kids)), api.ErrPage)
	}
	fails(t, treeOf(inner(2)), api.ErrLoop)
	fails(t, treeOf(inner(3), inner(2)), api.ErrLoop)
	fails(t, treeOf(inner(3, 3), page), api.ErrLoop)
	fails(t, treeOf(inner(3, 4), inner(4), page), api.ErrLoop)
	fails(t, treeOf(inner(3, 3, 9), page), api.ErrLoop)
	fails(t, treeOf(inner(3, 9, 3), page), api.ErrPage)
	fails(t, treeOf(inner(3, 4, 3), page, with(page, "Type", value.Null())), api.ErrPage)
	// The error of a page comes after all of those.
	bad := leaf(entries{"Rotate": value.Int(1)})
	fails(t, treeOf(inner(3, 3), bad), api.ErrLoop)
	fails(t, treeOf(inner(3, 9), bad), api.ErrPage)
}

// deep returns a tree of so many levels, of which the last one is the page.
func deep(levels int, last api.Object) api.Doc {
	var nodes []api.Object
	for n := range levels - 1 {
		nodes = append(nodes, inner(n+3))
	}
	return treeOf(append(nodes, last)...)
}

// Promise 35.1: the deepest tree.
func TestDepth(t *testing.T) {
	if list, e := pages.List(deep(api.MaxDepth, leaf(nil))); len(list) != 1 || list[0].Num != api.MaxDepth+1 || e != api.OK {
		t.Errorf("the deepest tree has %v, %d", list, e)
	}
	fails(t, deep(api.MaxDepth+1, leaf(nil)), api.ErrDeep)
	fails(t, deep(api.MaxDepth+1, inner(2)), api.ErrDeep)
	fails(t, deep(api.MaxDepth+1, value.Int(7)), api.ErrPage)
	fails(t, deep(api.MaxDepth+1, with(inner(), "Kids", value.Int(1))), api.ErrPage)
	fails(t, deep(api.MaxDepth, inner(api.MaxDepth)), api.ErrLoop)
}

// wide returns a tree of so many pages and other nodes below the root.
func wide(leaves, nodes int) api.Doc {
	var nums []int
	var list []api.Object
	for n := range leaves + nodes {
		nums = append(nums, n+3)
		if n < nodes {
			list = append(list, inner())
		} else {
			list = append(list, leaf(nil))
		}
	}
	return treeOf(append([]api.Object{inner(nums...)}, list...)...)
}

// Promise 35.1: the widest trees.
func TestWidth(t *testing.T) {
	begin := time.Now()
	for _, c := range []struct {
		leaves, nodes int
		want          api.Errno
	}{
		{0, 0, api.OK}, {api.MaxPages, 0, api.OK}, {api.MaxPages + 1, 0, api.ErrMany}, {api.MaxPages, api.MaxTree - api.MaxPages - 1, api.OK}, {api.MaxPages, api.MaxTree - api.MaxPages, api.ErrMany}, {0, api.MaxTree - 1, api.OK}, {0, api.MaxTree, api.ErrMany}, {1, api.MaxTree - 1, api.ErrMany},
	} {
		d := wide(c.leaves, c.nodes)
		if c.want != api.OK {
			fails(t, d, c.want)
			continue
		}
		list, e := pages.List(d)
		n, err := pages.Count(d)
		if len(list) != c.leaves || n != c.leaves || e != api.OK || err != api.OK {
			t.Errorf("a tree of %d and %d nodes has %d pages, %d", c.leaves, c.nodes, len(list), e)
		}
		if nums, e := pages.Inner(d); len(nums) != c.nodes+1 || nums[0] != 2 || e != api.OK {
			t.Errorf("a tree of %d and %d nodes has %d inner ones, %d", c.leaves, c.nodes, len(nums), e)
		}
		if at, ok := pages.Place(d, c.nodes+c.leaves+2); c.leaves > 0 && (at != c.leaves-1 || !ok) {
			t.Errorf("the last page is at %d, %v", at, ok)
		}
	}
	// One that is met again is no more than it was, and comes first.
	d := wide(api.MaxPages, 0)
	d.Items[1].Obj = with(d.Items[1].Obj, "Kids", value.Array(append(d.Items[1].Obj.Kids[0].Kids, ref(3))...))
	fails(t, d, api.ErrLoop)
	d.Items[1].Obj.Kids[0].Kids[api.MaxPages] = ref(1)
	fails(t, d, api.ErrPage)
	if time.Since(begin) > 20*time.Second {
		t.Errorf("it took %v", time.Since(begin))
	}
}

// Promise 35.1: what a page has, inherits, or has not.
func TestPage(t *testing.T) {
	box := api.Rect{X1: 1000000, Y1: 2000000}
	font := sample.Dict("Font", ref(1))
	plain := api.Page{Num: 4, Media: box, Crop: box, Res: sample.Dict("")}
	change := func(f func(p *api.Page)) api.Page { p := plain; f(&p); return p }
	crop := func(x0, y0, x1, y1 int64) api.Page {
		return change(func(p *api.Page) {
			p.Crop = api.Rect{X0: x0 * api.One, Y0: y0 * api.One, X1: x1 * api.One, Y1: y1 * api.One}
		})
	}
	turn := func(n int) api.Page { return change(func(p *api.Page) { p.Rotate = n }) }
	for i, c := range []struct {
		top, above, page entries
		want             api.Page
	}{
		{nil, nil, nil, plain},
		{entries{"MediaBox": ints(1, 1, 1, 1)}, entries{"MediaBox": ints(2, 2)}, nil, plain},
		{entries{"MediaBox": ints(9)}, entries{"MediaBox": ints(100, 200, 0, 0)}, entries{"MediaBox": value.Null()}, plain},
		{entries{"MediaBox": ints(0, 200, 100, 0)}, nil, entries{"MediaBox": ref(99)}, plain},
		{nil, nil, entries{"MediaBox": ref(6)}, plain},
		{nil, nil, entries{"MediaBox": value.Array(value.Int(0), ref(7), value.Real(1000000), value.Int(200))}, change(func(p *api.Page) {
			p.Media = api.Rect{Y0: 70001, X1: 1000000, Y1: 2000000}
			p.Crop = p.Media
		})},
		{nil, nil, entries{"MediaBox": ints(5, 5, 5, 5)}, change(func(p *api.Page) {
			p.Media = api.Rect{X0: 50000, Y0: 50000, X1: 50000, Y1: 50000}
			p.Crop = p.Media
		})},
		{entries{"CropBox": ints(10, 20, 30, 40)}, nil, nil, crop(10, 20, 30, 40)},
		{entries{"CropBox": ints(1)}, entries{"CropBox": ints(-10, 250, 30, 40)}, nil, crop(0, 40, 30, 200)},
		{nil, nil, entries{"CropBox": ints(90, 199, 300, 400)}, crop(90, 199, 100, 200)},
		{nil, nil, entries{"CropBox": ints(100, 0, 300, 400)}, plain},
		{nil, nil, entries{"CropBox": ints(0, 200, 300, 400)}, plain},
		{nil, nil, entries{"CropBox": ints(-5, -5, 0, 400)}, plain},
		{nil, nil, entries{"CropBox": ints(-5, -5, 400, 0)}, plain},
		{nil, nil, entries{"CropBox": ints(-500, -500, -400, -300)}, plain},
		{nil, nil, entries{"CropBox": ints(7, 7, 7, 9)}, plain},
		{nil, nil, entries{"CropBox": ints(7, 7, 9, 7)}, plain},
		{nil, nil, entries{"CropBox": ref(99)}, plain},
		{nil, entries{"CropBox": ints(1, 2, 3, 4)}, entries{"CropBox": ref(99)}, crop(1, 2, 3, 4)},
		{nil, entries{"CropBox": ints(1, 2, 3, 4)}, entries{"CropBox": ref(6)}, plain},
		{entries{"Rotate": value.Int(90)}, nil, nil, turn(90)},
		{entries{"Rotate": value.Int(90)}, nil, entries{"Rotate": value.Int(0)}, turn(0)},
		{nil, entries{"Rotate": value.Int(-90)}, nil, turn(270)},
		{nil, nil, entries{"Rotate": value.Int(360)}, turn(0)},
		{nil, nil, entries{"Rotate": value.Int(-360)}, turn(0)},
		{nil, nil, entries{"Rotate": value.Int(450)}, turn(90)},
		{nil, nil, entries{"Rotate": value.Int(-540)}, turn(180)},
		{nil, nil, entries{"Rotate": value.Int(2147483520)}, turn(0)},
		{nil, nil, entries{"Rotate": value.Int(-2147483430)}, turn(90)},
		{nil, nil, entries{"Rotate": ref(8)}, turn(180)},
		{entries{"Resources": font}, nil, nil, change(func(p *api.Page) { p.Res = font })},
		{entries{"Resources": font}, nil, entries{"Resources": sample.Dict("")}, plain},
		{entries{"Resources": value.Name("x")}, entries{"Resources": ref(9)}, nil, change(func(p *api.Page) { p.Res = font })},
		{nil, entries{"Resources": ref(98)}, entries{"Resources": ref(99)}, plain},
	} {
		top, above := inner(3), inner(4)
		for key, v := range c.top {
			top = with(top, key, v)
		}
		for key, v := range c.above {
			above = with(above, key, v)
		}
		d := treeOf(top, above, leaf(c.page), value.Null(), ints(0, 0, 100, 200), value.Real(70001), value.Int(180), font)
		got, e := pages.Get(d, 0)
		if !samePage(got, c.want) || e != api.OK {
			t.Errorf("page %d is %v, %d, want %v", i, got, e, c.want)
		}
	}
}

// Promise 35.1: what is wrong with a page, and that it is told of that page only.
func TestPageErrors(t *testing.T) {
	for _, bad := range []entries{
		{"MediaBox": value.Null()}, {"MediaBox": ref(99)}, {"MediaBox": ints(1, 2, 3)}, {"MediaBox": ints(1, 2, 3, 4, 5)}, {"MediaBox": sample.Dict("")}, {"MediaBox": value.Array(value.Int(1), value.Int(2), value.Int(3), value.Name("4"))}, {"MediaBox": ints(1, 2, 3, 107375)}, {"MediaBox": value.Array(value.Int(1), value.Int(2), value.Int(3), ref(99))},
		{"CropBox": ints()}, {"CropBox": value.Int(1)}, {"CropBox": value.Array(value.Bool(true), value.Int(2), value.Int(3), value.Int(4))}, {"CropBox": ref(2)},
		{"Rotate": value.Int(1)}, {"Rotate": value.Int(-45)}, {"Rotate": value.Real(900000)}, {"Rotate": value.Name("90")}, {"Rotate": value.Bool(false)},
		{"Resources": value.Array()}, {"Resources": value.Int(0)}, {"Resources": ref(5)}, {"Resources": value.String("")},
	} {
		d := treeOf(inner(3, 4), leaf(nil), leaf(bad), api.Object{Kind: api.KStream})
		if list, e := pages.List(d); len(list) > 0 || e != api.ErrPage {
			t.Errorf("List of %v = %v, %d", bad, list, e)
		}
		if p, e := pages.Get(d, 1); !samePage(p, api.Page{}) || e != api.ErrPage {
			t.Errorf("Get of %v = %v, %d", bad, p, e)
		}
		if s, e := pages.Content(d, 1); s != "" || e != api.ErrPage {
			t.Errorf("Content of %v = %q, %d", bad, s, e)
		}
		if p, e := pages.Get(d, 0); p.Num != 3 || e != api.OK {
			t.Errorf("Get beside %v = %v, %d", bad, p, e)
		}
		if n, e := pages.Count(d); n != 2 || e != api.OK {
			t.Errorf("Count with %v = %d, %d", bad, n, e)
		}
		if at, ok := pages.Place(d, 4); at != 1 || !ok {
			t.Errorf("Place of %v = %d, %v", bad, at, ok)
		}
		for _, n := range []int{math.MinInt, -1, 2, math.MaxInt} {
			if _, e := pages.Get(d, n); e != api.ErrNone {
				t.Errorf("Get of %d = %d", n, e)
			}
			if _, e := pages.Content(d, n); e != api.ErrNone {
				t.Errorf("Content of %d = %d", n, e)
			}
		}
	}
}

// Promise 35.1: numbers that no page has.
func TestPlace(t *testing.T) {
	d := treeOf(inner(4, 3), leaf(nil), leaf(nil), leaf(nil))
	for num, want := range map[int]int{4: 0, 3: 1, 2: -1, 1: -1, 5: -1, 6: -1, 0: -1, -1: -1, math.MaxInt: -1, math.MinInt: -1} {
		if at, ok := pages.Place(d, num); at != max(want, 0) || ok != (want >= 0) {
			t.Errorf("Place(%d) = %d, %v", num, at, ok)
		}
	}
}

// Promise 35.2.
func TestRect(t *testing.T) {
	d := sample.Doc(1, item(1, sample.Dict("")), item(2, ints(4, 3, 2, 1)), item(3, value.Real(5)), api.Item{Num: 4, Gen: 2, Obj: value.Int(-6)})
	invalid := api.Doc{Items: []api.Item{item(7, ref(2)), item(7, value.Int(1)), item(2, value.Int(-9)), item(2, value.Int(8)), item(-4, value.Int(4))}}
	most := int64(api.MaxFix / api.One)
	for i, c := range []struct {
		d    api.Doc
		o    api.Object
		want api.Rect
		err  api.Errno
	}{
		{d, ints(3, 4, 1, 2), api.Rect{X0: 10000, Y0: 20000, X1: 30000, Y1: 40000}, api.OK},
		{d, ints(1, 4, 3, 2), api.Rect{X0: 10000, Y0: 20000, X1: 30000, Y1: 40000}, api.OK},
		{d, ints(-1, -2, -3, -4), api.Rect{X0: -30000, Y0: -40000, X1: -10000, Y1: -20000}, api.OK},
		{d, ints(0, 0, 0, 0), api.Rect{}, api.OK},
		{d, ref(2), api.Rect{X0: 20000, Y0: 10000, X1: 40000, Y1: 30000}, api.OK},
		{d, value.Array(ref(3), sample.Ref(4, 2), value.Real(7), value.Int(1)), api.Rect{X0: 5, Y0: -60000, X1: 7, Y1: 10000}, api.OK},
		{d, ints(-most, -most, most, most), api.Rect{X0: -most * api.One, Y0: -most * api.One, X1: most * api.One, Y1: most * api.One}, api.OK},
		{d, value.Array(value.Real(-api.MaxFix), value.Real(0), value.Real(api.MaxFix), value.Real(1)), api.Rect{X0: -api.MaxFix, X1: api.MaxFix, Y1: 1}, api.OK},
		{invalid, value.Array(ref(2), ref(2), value.Int(1), value.Int(2)), api.Rect{X0: -90000, Y0: -90000, X1: 10000, Y1: 20000}, api.OK},
		{d, ints(most+1, 0, 0, 0), api.Rect{}, api.ErrForm},
		{d, ints(1, 2, 3), api.Rect{}, api.ErrForm},
		{d, ints(1, 2, 3, 4, 5), api.Rect{}, api.ErrForm},
		{d, ints(), api.Rect{}, api.ErrForm},
		{d, value.Null(), api.Rect{}, api.ErrForm},
		{d, sample.Dict("A B C D", value.Int(1), value.Int(2), value.Int(3), value.Int(4)), api.Rect{}, api.ErrForm},
		{d, ref(3), api.Rect{}, api.ErrForm},
		{d, ref(9), api.Rect{}, api.ErrForm},
		{d, sample.Ref(2, 1), api.Rect{}, api.ErrForm},
		{d, value.Array(ref(3), sample.Ref(4, 1), value.Real(7), value.Int(1)), api.Rect{}, api.ErrForm},
		{d, value.Array(value.Array(value.Int(1)), value.Int(1), value.Int(1), value.Int(1)), api.Rect{}, api.ErrForm},
		{d, value.Array(ref(2)), api.Rect{}, api.ErrForm},
		{d, value.Array(value.Int(math.MaxInt64), value.Int(1), value.Int(1), value.Int(1)), api.Rect{}, api.ErrForm},
		{d, value.Array(value.Int(1), value.Real(math.MinInt64), value.Int(1), value.Int(1)), api.Rect{}, api.ErrForm},
		{d, api.Object{Kind: 99}, api.Rect{}, api.ErrForm},
		{d, api.Object{Kind: api.KRef, N: math.MinInt64}, api.Rect{}, api.ErrForm},
		{invalid, value.Array(ref(7), ref(2), value.Int(1), value.Int(2)), api.Rect{}, api.ErrForm},
		{api.Doc{}, ref(1), api.Rect{}, api.ErrForm},
	} {
		if r, e := pages.Rect(c.d, c.o); r != c.want || e != c.err {
			t.Errorf("Rect %d = %v, %d, want %v, %d", i, r, e, c.want, c.err)
		}
		if docs.Check(c.d) != api.OK || value.Check(c.o) != api.OK {
			continue
		}
		if r, e := pages.Box(web.Of(c.d), c.o); r != c.want || e != c.err {
			t.Errorf("Box %d = %v, %d, want %v, %d", i, r, e, c.want, c.err)
		}
	}
}

// streamOf returns a stream without entries.
func streamOf(data string) api.Object { return api.Object{Kind: api.KStream, S: data} }

// hexed returns a stream whose data stands for other data.
func hexed(data string) api.Object {
	o := sample.Dict("Filter", value.Name("ASCIIHexDecode"))
	o.Kind, o.S = api.KStream, data
	return o
}

// Promise 35.3.
func TestContent(t *testing.T) {
	long := strings.Repeat("l", api.MaxData)
	half := strings.Repeat("h", api.MaxData/2)
	unknown := sample.Dict("Filter", value.Name("Nothing"))
	unknown.Kind = api.KStream
	for i, c := range []struct {
		contents api.Object
		want     string
		err      api.Errno
	}{
		{value.Null(), "", api.OK},
		{ref(99), "", api.OK},
		{ref(4), "", api.OK},
		{ref(5), "q Q", api.OK},
		{ref(6), "AB", api.OK},
		{ref(7), "", api.ErrForm},
		{ref(8), "", api.ErrFilter},
		{value.Array(), "", api.OK},
		{value.Array(ref(5)), "q Q", api.OK},
		{value.Array(ref(5), ref(6), ref(5)), "q Q\nAB\nq Q", api.OK},
		{value.Array(ref(12), ref(12), ref(6), ref(12)), "\n\nAB\n", api.OK},
		{ref(9), "AB\nq Q", api.OK},
		{ref(10), long, api.OK},
		{value.Array(ref(10)), long, api.OK},
		{value.Array(ref(10), ref(12)), "", api.ErrLong},
		{value.Array(ref(12), ref(10)), "", api.ErrLong},
		{value.Array(ref(11), ref(11)), "", api.ErrLong},
		{value.Array(ref(13), ref(11)), half[1:] + "\n" + half, api.OK},
		{value.Array(ref(13), ref(11), ref(12)), "", api.ErrLong},
		{value.Array(ref(13), ref(13), ref(12)), half[1:] + "\n" + half[1:] + "\n", api.OK},
		{value.Array(ref(7), ref(8)), "", api.ErrForm},
		{value.Array(ref(8), ref(7)), "", api.ErrFilter},
		{value.Array(ref(5), ref(8), ref(7)), "", api.ErrFilter},
		{value.Array(ref(10), ref(12), ref(8)), "", api.ErrLong},
		{value.Array(ref(10), ref(8), ref(12)), "", api.ErrFilter},
		{value.Array(ref(8), ref(3)), "", api.ErrPage},
		{value.Array(ref(10), ref(10), ref(99)), "", api.ErrPage},
		{value.Array(ref(5), value.Null()), "", api.ErrPage},
		{value.Array(value.Array(ref(5))), "", api.ErrPage},
		{value.Array(ref(9)), "", api.ErrPage},
		{value.Array(ref(5), sample.Ref(5, 1)), "", api.ErrPage},
		{value.Array(ref(4)), "", api.ErrPage},
		{value.String("q Q"), "", api.ErrPage},
		{sample.Dict(""), "", api.ErrPage},
		{ref(3), "", api.ErrPage},
		{value.Int(5), "", api.ErrPage},
	} {
		d := treeOf(inner(14, 3), leaf(entries{"Contents": c.contents}), value.Null(), streamOf("q Q"), hexed("4142>"), hexed("4x>"), unknown, value.Array(ref(6), ref(5)), streamOf(long), streamOf(half), streamOf(""), streamOf(half[1:]), leaf(nil))
		if s, e := pages.Content(d, 1); s != c.want || e != c.err {
			t.Errorf("Content %d = %s, %d, want %s, %d", i, brief(s), e, brief(c.want), c.err)
		}
		if s, e := pages.Content(d, 0); s != "" || e != api.OK {
			t.Errorf("Content without any = %q, %d", s, e)
		}
	}
}

// Promise 35.3 and P5: a stream that takes long to decode, and of which nothing is left, many times.
func TestContentTakesNoLonger(t *testing.T) {
	list := value.Array()
	for range api.MaxKids {
		list.Kids = append(list.Kids, ref(4))
	}
	d := treeOf(inner(3), leaf(entries{"Contents": list}), hexed(strings.Repeat(" ", api.MaxData-1)+">"))
	begin := time.Now()
	if s, e := pages.Content(d, 0); s != strings.Repeat("\n", api.MaxKids-1) || e != api.OK {
		t.Errorf("Content = %s, %d", brief(s), e)
	}
	if time.Since(begin) > 10*time.Second {
		t.Errorf("it took %v", time.Since(begin))
	}
}

// Promise 35.1: what pages share in the document they do not share in the answer, nor with the document.
func TestMemory(t *testing.T) {
	d := treeOf(with(inner(3, 4), "Resources", sample.Dict("Font", sample.Dict("F", ref(1)))), leaf(nil), leaf(nil))
	was := sample.Copy(d)
	list, _ := pages.List(d)
	sample.Spoil(list[0].Res)
	p, _ := pages.Get(d, 0)
	sample.Spoil(p.Res)
	if !docs.Same(d, was) || !value.Same(list[1].Res, was.Items[1].Obj.Kids[1]) {
		t.Errorf("memory is shared: %s, %v", brief(d), list[1])
	}
}

// Inner, which chapter 36 needs: the nodes that are no pages.
func TestInner(t *testing.T) {
	for _, c := range []struct {
		d    api.Doc
		want []int
	}{
		{treeOf(leaf(nil)), nil},
		{treeOf(inner()), []int{2}},
		{treeOf(inner(6, 3), inner(4, 5), leaf(nil), inner(), inner()), []int{2, 6, 3, 5}},
		{treeOf(inner(3), leaf(entries{"Rotate": value.Int(1)})), []int{2}},
	} {
		if got, e := pages.Inner(c.d); !slices.Equal(got, c.want) || e != api.OK {
			t.Errorf("Inner(%s) = %v, %d, want %v", brief(c.d), got, e, c.want)
		}
	}
}
