package annot_test

import (
	"fmt"
	"math"
	"slices"
	"strings"
	"testing"
	"time"

	"foliant/annot"
	"foliant/api"
	"foliant/catalog"
	"foliant/dest"
	"foliant/docs"
	"foliant/sample"
	"foliant/value"
)

// brief shows the beginning of anything.
func brief(x any) string { return fmt.Sprintf("%.700s", fmt.Sprintf("%q", fmt.Sprint(x))) }

// ref returns a reference of generation 0.
func ref(num int) api.Object { return sample.Ref(num, 0) }

// fresh returns a document of two pages, 3 and 4, the second of which has a value of Annots, unless it is null, and more items from number 5 on.
func fresh(annots api.Object, list ...api.Object) api.Doc {
	d, _ := catalog.New(2)
	d.Items[3].Obj, _ = value.Set(d.Items[3].Obj, "Annots", annots)
	for i, o := range list {
		d.Items = append(d.Items, api.Item{Num: 5 + i, Obj: o})
	}
	return d
}

// entries are those of a dictionary.
type entries map[string]api.Object

// note returns the dictionary of an annotation with more entries, of which those that are null are taken away.
func note(more entries) api.Object {
	all := entries{"Subtype": value.Name("Text"), "Rect": rect(1, 2, 3, 4)}
	for key, o := range more {
		all[key] = o
	}
	return sample.Entries(all)
}

// rect returns an array of integers.
func rect(list ...int64) api.Object {
	o := sample.Array()
	for _, n := range list {
		o.Kids = append(o.Kids, value.Int(n))
	}
	return o
}

// box is the box of a note.
func box() api.Rect { return api.Rect{X0: 10000, Y0: 20000, X1: 30000, Y1: 40000} }

// Promise 41.1: annotations of all forms.
func TestRead(t *testing.T) {
	plain := api.Annot{Kind: "Text", Box: box()}
	with := func(change func(a *api.Annot)) []api.Annot {
		a := plain
		change(&a)
		return []api.Annot{a}
	}
	fit := api.Dest{Page: 1, Kind: api.DestFit}
	array := sample.Array(ref(4), value.Name("Fit"))
	at := with(func(a *api.Annot) { a.To, a.Has = fit, true })
	named, _ := dest.SetNamed(fresh(sample.Array(note(entries{"Dest": value.String("n")}), note(entries{"Dest": value.Name("n")}))), "n", fit)
	for i, c := range []struct {
		d    api.Doc
		want []api.Annot
	}{
		{fresh(value.Null()), nil}, {fresh(ref(99)), nil}, {fresh(ref(5), value.Null()), nil}, {fresh(sample.Array()), nil}, {fresh(ref(5), sample.Array()), nil},
		{fresh(sample.Array(note(nil))), []api.Annot{plain}}, {fresh(ref(5), sample.Array(ref(6)), note(nil)), []api.Annot{plain}}, {fresh(sample.Array(note(nil), ref(5), ref(5)), note(entries{"Subtype": value.Name("Link")})), []api.Annot{plain, {Kind: "Link", Box: box()}, {Kind: "Link", Box: box()}}},
		{fresh(sample.Array(note(entries{"Subtype": ref(5)})), value.Name("")), with(func(a *api.Annot) { a.Kind = "" })}, {fresh(sample.Array(note(entries{"Rect": ref(5)})), sample.Array(ref(6), value.Real(-1), value.Int(0), value.Int(0)), value.Int(7)), with(func(a *api.Annot) { a.Box = api.Rect{Y0: -1, X1: 70000} })}, {fresh(sample.Array(note(entries{"Rect": rect(3, 4, 1, 2)}))), []api.Annot{plain}},
		{fresh(sample.Array(note(entries{"Contents": value.String("hi")}))), with(func(a *api.Annot) { a.Text = "hi" })}, {fresh(sample.Array(note(entries{"Contents": ref(5)})), value.String("hi")), with(func(a *api.Annot) { a.Text = "hi" })}, {fresh(sample.Array(note(entries{"Contents": value.String("")}))), []api.Annot{plain}}, {fresh(sample.Array(note(entries{"Contents": ref(99)}))), []api.Annot{plain}}, {fresh(sample.Array(note(entries{"Contents": value.String(strings.Repeat("t", api.MaxString))}))), with(func(a *api.Annot) { a.Text = strings.Repeat("t", api.MaxString) })},
		{fresh(sample.Array(note(entries{"Dest": array}))), at}, {fresh(sample.Array(note(entries{"Dest": ref(5)})), array), at}, {fresh(sample.Array(note(entries{"Dest": ref(5)})), sample.Dict("D", array)), at}, {named, append(at, at...)}, {fresh(sample.Array(note(entries{"Dest": sample.Array(ref(3), value.Name("FitH"), value.Real(5))}))), with(func(a *api.Annot) { a.To, a.Has = api.Dest{Kind: api.DestFitH, Y: 5}, true })},
		{fresh(sample.Array(note(entries{"Type": value.Int(1), "P": ref(99), "A": value.Null()}))), []api.Annot{plain}}, {fresh(sample.Array(slices.Repeat([]api.Object{ref(5)}, api.MaxTree)...), note(nil)), slices.Repeat([]api.Annot{plain}, api.MaxTree)},
	} {
		was := sample.Copy(c.d)
		if l, e := annot.Read(c.d, 1); !slices.Equal(l, c.want) || e != api.OK || !docs.Same(c.d, was) {
			t.Errorf("Read %d = %s, %d, want %s", i, brief(l), e, brief(c.want))
		}
		if l, e := annot.Read(c.d, 0); len(l) != 0 || e != api.OK {
			t.Errorf("Read %d of the first page = %s, %d", i, brief(l), e)
		}
	}
}

// Promise 41.1: errors.
func TestReadErrors(t *testing.T) {
	array := sample.Array(ref(4), value.Name("Fit"))
	stream := api.Object{Kind: api.KStream, Keys: []string{"Rect", "Subtype"}, Kids: []api.Object{rect(1, 2, 3, 4), value.Name("Text")}}
	one := func(more entries) api.Doc { return fresh(sample.Array(note(nil), note(more), note(nil))) }
	wrongDest := note(entries{"Dest": value.Int(1)})
	broken := fresh(sample.Array(note(entries{"Dest": array})))
	broken.Items[2].Obj = value.Drop(broken.Items[2].Obj, "MediaBox")
	for i, c := range []struct {
		d    api.Doc
		want api.Errno
	}{
		{fresh(sample.Dict("")), api.ErrForm}, {fresh(note(nil)), api.ErrForm}, {fresh(value.Int(1)), api.ErrForm}, {fresh(ref(5), stream), api.ErrForm}, {fresh(value.Name("Annots")), api.ErrForm}, {fresh(ref(4)), api.ErrForm},
		{fresh(sample.Array(value.Null())), api.ErrForm}, {fresh(sample.Array(ref(99))), api.ErrForm}, {fresh(sample.Array(sample.Ref(5, 1)), note(nil)), api.ErrForm}, {fresh(sample.Array(ref(5)), stream), api.ErrForm}, {fresh(sample.Array(sample.Array(note(nil)))), api.ErrForm}, {fresh(sample.Array(value.Int(1))), api.ErrForm}, {fresh(sample.Array(sample.Dict(""))), api.ErrForm},
		{one(entries{"Subtype": value.Null()}), api.ErrForm}, {one(entries{"Subtype": value.String("Text")}), api.ErrForm}, {one(entries{"Subtype": ref(99)}), api.ErrForm}, {one(entries{"Subtype": ref(4)}), api.ErrForm},
		{one(entries{"Rect": value.Null()}), api.ErrForm}, {one(entries{"Rect": rect(1, 2, 3)}), api.ErrForm}, {one(entries{"Rect": rect(1, 2, 3, 4, 5)}), api.ErrForm}, {one(entries{"Rect": ref(99)}), api.ErrForm}, {one(entries{"Rect": rect(1, 2, 3, 107375)}), api.ErrForm}, {one(entries{"Rect": sample.Array(value.Int(1), value.Int(1), value.Int(1), value.Name("1"))}), api.ErrForm}, {one(entries{"Rect": value.Int(1)}), api.ErrForm},
		{one(entries{"Contents": value.Name("hi")}), api.ErrForm}, {one(entries{"Contents": value.Int(1)}), api.ErrForm}, {one(entries{"Contents": ref(4)}), api.ErrForm}, {one(entries{"Contents": sample.Array()}), api.ErrForm},
		// The errors of dest.Read.
		{one(entries{"Dest": value.Int(1)}), api.ErrKind}, {one(entries{"Dest": ref(99)}), api.ErrKind}, {one(entries{"Dest": sample.Dict("")}), api.ErrKind}, {one(entries{"Dest": sample.Array()}), api.ErrForm}, {one(entries{"Dest": sample.Array(ref(4), value.Name("fit"))}), api.ErrForm}, {one(entries{"Dest": sample.Array(ref(2), value.Name("Fit"))}), api.ErrNone}, {one(entries{"Dest": value.Name("n")}), api.ErrNone}, {one(entries{"Dest": value.String("n")}), api.ErrNone}, {broken, api.ErrPage},
		// The first element that is wrong, and what is wrong with it first.
		{fresh(sample.Array(wrongDest, note(entries{"Rect": value.Null()}))), api.ErrKind}, {fresh(sample.Array(note(entries{"Rect": value.Null()}), wrongDest)), api.ErrForm}, {one(entries{"Contents": value.Int(1), "Dest": value.Int(1)}), api.ErrForm}, {one(entries{"Subtype": value.Int(1), "Dest": value.Int(1)}), api.ErrForm},
		{fresh(sample.Array(slices.Repeat([]api.Object{ref(5)}, api.MaxTree+1)...), note(nil)), api.ErrMany}, {fresh(sample.Array(append(slices.Repeat([]api.Object{ref(5)}, api.MaxTree+1), wrongDest)...), note(nil)), api.ErrKind}, {fresh(ref(5), sample.Array(slices.Repeat([]api.Object{ref(6)}, api.MaxKids)...), note(nil)), api.ErrMany}, {fresh(ref(5), sample.Array(append(slices.Repeat([]api.Object{ref(6)}, api.MaxKids-1), value.Null())...), note(nil)), api.ErrForm},
	} {
		if l, e := annot.Read(c.d, 1); l != nil || e != c.want {
			t.Errorf("Read %d = %s, %d, want %d", i, brief(l), e, c.want)
		}
	}
}

// Promises 41.1, 41.2 and 41.3: documents and pages that are wrong.
func TestPageErrors(t *testing.T) {
	good := api.Annot{Kind: "Text", Box: box()}
	expect := func(what string, d api.Doc, page int, a api.Annot, want api.Errno) {
		t.Helper()
		if l, e := annot.Read(d, page); l != nil || e != want {
			t.Errorf("Read of %s = %v, %d, want %d", what, l, e, want)
		}
		if got, num, e := annot.Add(d, page, a); !docs.Same(got, api.Doc{}) || num != 0 || e != want {
			t.Errorf("Add to %s = %s, %d, %d, want %d", what, brief(got), num, e, want)
		}
		if got, e := annot.Remove(d, page, 0); !docs.Same(got, api.Doc{}) || e != want {
			t.Errorf("Remove from %s = %s, %d, want %d", what, brief(got), e, want)
		}
	}
	for _, a := range []api.Annot{good, {}} {
		for i, b := range sample.BadDocs() {
			expect(fmt.Sprint("bad document ", i), b.Is, 0, a, b.Err)
		}
		d := fresh(sample.Array(note(nil)))
		for _, page := range []int{-1, 2, math.MaxInt, math.MinInt} {
			expect(fmt.Sprint("page ", page), d, page, a, api.ErrNone)
		}
		d.Items[3].Obj = value.Drop(d.Items[3].Obj, "MediaBox")
		expect("a page without a box", d, 1, a, api.ErrPage)
		d.Items[3].Obj = value.Drop(d.Items[3].Obj, "Type")
		expect("a page without a type", d, 0, a, api.ErrPage)
		expect("what is no array", fresh(ref(4)), 1, a, api.ErrForm)
	}
}

// Promise 41.2: what is added.
func TestAdd(t *testing.T) {
	link := api.Annot{Kind: "Link", Box: api.Rect{X0: -5, Y0: 0, X1: 10000, Y1: api.MaxFix}, Text: "hi", To: api.Dest{Page: 0, Kind: api.DestFitH, Y: 25000}, Has: true}
	full := sample.Dict("Contents Dest Rect Subtype Type", value.String("hi"), sample.Array(ref(3), value.Name("FitH"), value.Real(25000)), sample.Array(value.Real(-5), value.Real(0), value.Real(10000), value.Real(api.MaxFix)), value.Name("Link"), value.Name("Annot"))
	bare := api.Annot{Kind: "Text", Box: box(), To: link.To}
	small := sample.Dict("Rect Subtype Type", sample.Array(value.Real(10000), value.Real(20000), value.Real(30000), value.Real(40000)), value.Name("Text"), value.Name("Annot"))
	old := note(nil)
	for i, c := range []struct {
		d    api.Doc
		a    api.Annot
		want api.Doc
		num  int
	}{
		{fresh(value.Null()), link, fresh(sample.Array(ref(5)), full), 5}, {fresh(value.Null()), bare, fresh(sample.Array(ref(5)), small), 5}, {fresh(sample.Array(old)), bare, fresh(sample.Array(old, ref(5)), small), 5}, {fresh(sample.Array()), bare, fresh(sample.Array(ref(5)), small), 5}, {fresh(ref(99)), bare, fresh(sample.Array(ref(5)), small), 5},
		// The elements are taken as they are, from wherever they stand.
		{fresh(ref(5), sample.Array(ref(6), old), old), link, fresh(sample.Array(ref(6), old, ref(7)), sample.Array(ref(6), old), old, full), 7}, {fresh(sample.Array(value.Int(7), value.Null(), ref(99))), bare, fresh(sample.Array(value.Int(7), value.Null(), ref(99), ref(5)), small), 5},
		{fresh(ref(5), sample.Array(slices.Repeat([]api.Object{value.Null()}, api.MaxTree-1)...)), bare, fresh(sample.Array(append(slices.Repeat([]api.Object{value.Null()}, api.MaxTree-1), ref(6))...), sample.Array(slices.Repeat([]api.Object{value.Null()}, api.MaxTree-1)...), small), 6},
	} {
		was := sample.Copy(c.d)
		d, num, e := annot.Add(c.d, 1, c.a)
		if num != c.num {
			t.Errorf("Add %d has the number %d, want %d", i, num, c.num)
		}
		if wrong := sample.Wrong(c.d, d, e, c.want, api.OK); wrong != "" || !docs.Same(c.d, was) {
			t.Errorf("Add %d is wrong: %s", i, wrong)
		}
	}
	d := fresh(value.Null())
	d.Items[3].Gen, d.Items[1].Obj.Kids[1].Kids[1].G = 7, 7
	if got, num, e := annot.Add(d, 1, bare); e != api.OK || num != 5 || got.Items[3].Gen != 7 || !value.Same(got.Items[3].Obj.Kids[0], sample.Array(ref(5))) {
		t.Errorf("Add to a page of generation 7 = %s, %d, %d", brief(got), num, e)
	}
	d.Items = append(d.Items, api.Item{Num: 100})
	if got, num, e := annot.Add(d, 0, bare); e != api.OK || num != 101 || !value.Same(got.Items[2].Obj.Kids[0], sample.Array(ref(101))) {
		t.Errorf("Add to the first page = %s, %d, %d", brief(got), num, e)
	}
}

// Promise 41.2: errors.
func TestAddErrors(t *testing.T) {
	good := api.Annot{Kind: "Text", Box: box()}
	with := func(change func(a *api.Annot)) api.Annot {
		a := good
		change(&a)
		return a
	}
	to := func(x api.Dest) api.Annot { return with(func(a *api.Annot) { a.To, a.Has = x, true }) }
	rectangle := func(x0, y0, x1, y1 int64) api.Annot {
		return with(func(a *api.Annot) { a.Box = api.Rect{X0: x0, Y0: y0, X1: x1, Y1: y1} })
	}
	const most = api.MaxFix
	empty := fresh(value.Null())
	full := fresh(value.Null())
	full.Items = append(full.Items, api.Item{Num: api.MaxNum})
	many := fresh(ref(5), sample.Array(slices.Repeat([]api.Object{value.Null()}, api.MaxTree)...))
	more := fresh(ref(5), sample.Array(slices.Repeat([]api.Object{value.Null()}, api.MaxKids)...))
	crowded := fresh(value.Null())
	for i, key := range sample.Broad(api.MaxKids - 3).Keys {
		crowded.Items[3].Obj.Keys = append(crowded.Items[3].Obj.Keys, "Z"+key)
		crowded.Items[3].Obj.Kids = append(crowded.Items[3].Obj.Kids, value.Int(int64(i)))
	}
	deep := fresh(ref(5), sample.Array(nest(api.MaxDepth-1)))
	broken := fresh(value.Null())
	broken.Items[2].Obj = value.Drop(broken.Items[2].Obj, "MediaBox")
	fullDeep := fresh(ref(5), sample.Array(nest(api.MaxDepth-1)))
	fullDeep.Items = append(fullDeep.Items, api.Item{Num: api.MaxNum})
	long, longKind := strings.Repeat("t", api.MaxText+1), strings.Repeat("k", api.MaxName+1)
	for i, c := range []struct {
		d    api.Doc
		a    api.Annot
		want api.Errno
	}{
		{empty, good, api.OK}, {empty, with(func(a *api.Annot) { a.Kind = "" }), api.ErrArg}, {empty, rectangle(1, 0, 0, 0), api.ErrArg}, {empty, rectangle(0, 1, 0, 0), api.ErrArg}, {empty, rectangle(0, 0, 0, 0), api.OK}, {empty, rectangle(5, 5, 5, 5), api.OK}, {empty, rectangle(math.MaxInt64, 0, math.MinInt64, 0), api.ErrArg},
		{empty, rectangle(-most, -most, most, most), api.OK}, {empty, rectangle(-most-1, 0, 0, 0), api.ErrRange}, {empty, rectangle(0, -most-1, 0, 0), api.ErrRange}, {empty, rectangle(0, 0, most+1, 0), api.ErrRange}, {empty, rectangle(0, 0, 0, most+1), api.ErrRange}, {empty, rectangle(most+1, 0, most+1, 0), api.ErrRange}, {empty, rectangle(0, -most-2, 0, -most-1), api.ErrRange}, {empty, rectangle(math.MinInt64, 0, math.MaxInt64, 0), api.ErrRange},
		{empty, with(func(a *api.Annot) { a.Text = long }), api.ErrLong}, {empty, with(func(a *api.Annot) { a.Text = long[1:] }), api.OK}, {empty, with(func(a *api.Annot) { a.Kind = longKind }), api.ErrLong}, {empty, with(func(a *api.Annot) { a.Kind = longKind[1:] }), api.OK}, {empty, with(func(a *api.Annot) { a.Kind = "a\x00" }), api.ErrForm},
		{many, good, api.ErrMany}, {more, good, api.ErrMany}, {full, good, api.ErrFull}, {crowded, good, api.ErrMany}, {deep, good, api.ErrDeep}, {fullDeep, good, api.ErrFull},
		{empty, to(api.Dest{Kind: api.DestFit}), api.OK}, {empty, to(api.Dest{}), api.ErrKind}, {empty, to(api.Dest{Kind: api.DestXYZ, X: most + 1}), api.ErrRange}, {empty, to(api.Dest{Kind: api.DestFit, X: 1}), api.ErrArg}, {empty, to(api.Dest{Kind: api.DestFit, Page: 2}), api.ErrRange}, {empty, to(api.Dest{Kind: api.DestFit, Page: -1}), api.ErrRange}, {broken, to(api.Dest{Kind: api.DestFit}), api.ErrPage}, {broken, good, api.OK}, {empty, with(func(a *api.Annot) { a.To.Kind = 99 }), api.OK},
		// The one that is named first.
		{many, with(func(a *api.Annot) { a.Kind, a.Box.X1, a.Text = "", math.MaxInt64, long }), api.ErrArg}, {many, with(func(a *api.Annot) { a.Box.X1, a.Text = math.MaxInt64, long }), api.ErrRange}, {many, with(func(a *api.Annot) { a.Text, a.Has = long, true }), api.ErrLong}, {many, to(api.Dest{}), api.ErrMany}, {full, to(api.Dest{}), api.ErrKind}, {empty, with(func(a *api.Annot) { a.Kind, a.Has = "\x00", true }), api.ErrKind}, {full, with(func(a *api.Annot) { a.Kind = longKind }), api.ErrLong},
		{many, rectangle(-most-1, 0, 0, 0), api.ErrRange}, {many, rectangle(0, -most-1, 0, 0), api.ErrRange}, {many, rectangle(0, 0, most+1, 0), api.ErrRange}, {many, rectangle(0, 0, 0, most+1), api.ErrRange}, {many, with(func(a *api.Annot) { a.Kind = longKind }), api.ErrLong}, {many, with(func(a *api.Annot) { a.Kind = "\x00" }), api.ErrMany},
	} {
		d, num, e := annot.Add(c.d, 1, c.a)
		if e != c.want || (e == api.OK) != (len(d.Items) > 0) || (e == api.OK) != (num > 0) || e != api.OK && d.Trailer.Kind != 0 {
			t.Errorf("Add %d = %s, %d, %d, want %d", i, brief(d), num, e, c.want)
		}
	}
}

// nest returns an array of the given depth.
func nest(depth int) api.Object {
	o := sample.Array()
	for range depth - 1 {
		o = sample.Array(o)
	}
	return o
}

// Promise 41.3.
func TestRemove(t *testing.T) {
	a, b, c := note(nil), value.Int(7), ref(5)
	all := sample.Array(a, b, c)
	for i, x := range []struct {
		d    api.Doc
		at   int
		want api.Doc
		err  api.Errno
	}{
		{fresh(all, a), 0, fresh(sample.Array(b, c), a), api.OK}, {fresh(all, a), 1, fresh(sample.Array(a, c), a), api.OK}, {fresh(all, a), 2, fresh(sample.Array(a, b), a), api.OK}, {fresh(sample.Array(c), a), 0, fresh(value.Null(), a), api.OK}, {fresh(ref(6), a, all), 1, fresh(sample.Array(a, c), a, all), api.OK}, {fresh(ref(6), a, sample.Array(c)), 0, fresh(value.Null(), a, sample.Array(c)), api.OK},
		{fresh(all, a), 3, api.Doc{}, api.ErrNone}, {fresh(all, a), -1, api.Doc{}, api.ErrNone}, {fresh(all, a), math.MaxInt, api.Doc{}, api.ErrNone}, {fresh(value.Null()), 0, api.Doc{}, api.ErrNone}, {fresh(ref(99)), 0, api.Doc{}, api.ErrNone}, {fresh(sample.Array()), 0, api.Doc{}, api.ErrNone},
		{fresh(sample.Dict("")), 0, api.Doc{}, api.ErrForm}, {fresh(sample.Dict("")), -1, api.Doc{}, api.ErrForm}, {fresh(ref(5), sample.Array(value.Null(), nest(api.MaxDepth-1))), 0, api.Doc{}, api.ErrDeep}, {fresh(ref(5), sample.Array(nest(api.MaxDepth-1), value.Null())), 0, fresh(sample.Array(value.Null()), sample.Array(nest(api.MaxDepth-1), value.Null())), api.OK},
	} {
		d, e := annot.Remove(x.d, 1, x.at)
		if wrong := sample.Wrong(x.d, d, e, x.want, x.err); wrong != "" {
			t.Errorf("Remove %d is wrong: %s", i, wrong)
		}
	}
}

// Promise 41.3, by the example of the chapter.
func TestAt(t *testing.T) {
	l := []api.Annot{{Box: api.Rect{X1: 10, Y1: 10}}, {Box: api.Rect{X0: 10, Y0: -5, X1: 20, Y1: 0}}, {Box: api.Rect{X0: 10, X1: 10}}, {Box: api.Rect{X0: 20, Y0: 20, X1: 0, Y1: 0}}, {Kind: "Link", Has: true}}
	for _, c := range []struct {
		x, y int64
		want []int
	}{
		{10, 0, []int{0, 1, 2}}, {11, 0, []int{1}}, {0, 10, []int{0}}, {0, 11, nil}, {10, 10, []int{0}}, {5, 5, []int{0}}, {0, 0, []int{0, 4}}, {-1, 0, nil}, {0, -1, nil}, {20, -5, []int{1}}, {21, -5, nil}, {20, -6, nil}, {15, 1, nil}, {math.MaxInt64, math.MinInt64, nil},
	} {
		if got := annot.At(l, api.Point{X: c.x, Y: c.y}); !slices.Equal(got, c.want) {
			t.Errorf("At(%d, %d) = %v, want %v", c.x, c.y, got, c.want)
		}
		if got := annot.At(nil, api.Point{X: c.x, Y: c.y}); len(got) != 0 {
			t.Errorf("At of nothing = %v", got)
		}
	}
}

// Many annotations in a document of many pages and items are read at once.
func TestReadIsFast(t *testing.T) {
	d, _ := catalog.New(api.MaxPages)
	list := sample.Array()
	for n := range api.MaxTree {
		num := api.MaxPages + 3 + n
		d.Items = append(d.Items, api.Item{Num: num, Obj: note(entries{"Contents": ref(api.MaxNum), "Dest": sample.Array(ref(3+n%api.MaxPages), value.Name("Fit"))})})
		list.Kids = append(list.Kids, ref(num))
	}
	d.Items = append(d.Items, api.Item{Num: api.MaxNum, Obj: value.String("t")})
	d.Items[2].Obj, _ = value.Set(d.Items[2].Obj, "Annots", list)
	start := time.Now()
	l, e := annot.Read(d, 0)
	if len(l) != api.MaxTree || e != api.OK || l[9].To.Page != 9 || l[9].Text != "t" {
		t.Errorf("Read has %d annotations, and the error %d", len(l), e)
	}
	if took := time.Since(start); took > 2*time.Second {
		t.Errorf("it took %v", took)
	}
}
