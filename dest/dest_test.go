package dest_test

import (
	"fmt"
	"math"
	"slices"
	"strconv"
	"strings"
	"testing"
	"time"

	"foliant/api"
	"foliant/catalog"
	"foliant/dest"
	"foliant/docs"
	"foliant/names"
	"foliant/sample"
	"foliant/value"
)

// brief shows the beginning of anything.
func brief(x any) string { return fmt.Sprintf("%.700s", fmt.Sprintf("%q", fmt.Sprint(x))) }

// item returns an item of generation 0.
func item(num int, o api.Object) api.Item { return api.Item{Num: num, Obj: o} }

// ref returns a reference of generation 0.
func ref(num int) api.Object { return sample.Ref(num, 0) }

// fresh returns a document of three pages, 3 to 5, the last of which has the generation 7, with more entries in its catalog and more items from number 6 on.
func fresh(entries map[string]api.Object, list ...api.Object) api.Doc {
	d, _ := catalog.New(3)
	d.Items[4].Gen = 7
	d.Items[1].Obj, _ = value.Set(d.Items[1].Obj, "Kids", value.Array(ref(3), ref(4), sample.Ref(5, 7)))
	for key, o := range entries {
		d, _ = catalog.SetRoot(d, key, o)
	}
	for _, o := range list {
		d, _, _ = docs.Add(d, o)
	}
	return d
}

// broken returns the document that fresh returns, without boxes of its pages.
func broken(entries map[string]api.Object, list ...api.Object) api.Doc {
	d := fresh(entries, list...)
	for i := 2; i < 5; i++ {
		d.Items[i].Obj = value.Drop(d.Items[i].Obj, "MediaBox")
	}
	return d
}

// aimed returns an array for the first page.
func aimed(kind string, numbers ...api.Object) api.Object {
	return sample.Array(append([]api.Object{ref(3), value.Name(kind)}, numbers...)...)
}

// Promise 39.2, by the example of the chapter.
func TestExample(t *testing.T) {
	d, _ := catalog.New(2)
	o, e := dest.Make(d, api.Dest{Page: 1, Kind: api.DestFitH, Y: 25000})
	if want := sample.Array(ref(4), value.Name("FitH"), value.Real(25000)); !value.Same(o, want) || e != api.OK {
		t.Errorf("Make = %v, %d, want %v", o, e, want)
	}
}

// Promise 39.1: what is a destination array, and what is not.
func TestArrays(t *testing.T) {
	one, two, half := value.Int(1), value.Int(2), value.Real(5000)
	d := fresh(nil, one, value.Real(-3), value.Name("Fit"), value.Null(), value.String("Fit"), sample.Dict("Type", value.Name("Page")))
	for i, c := range []struct {
		o    api.Object
		want api.Dest
		err  api.Errno
	}{
		{aimed("XYZ", one, half, two), api.Dest{Kind: api.DestXYZ, X: 10000, Y: 5000, Z: 20000}, api.OK}, {aimed("Fit"), api.Dest{Kind: api.DestFit}, api.OK}, {aimed("FitH", one), api.Dest{Kind: api.DestFitH, Y: 10000}, api.OK}, {aimed("FitV", half), api.Dest{Kind: api.DestFitV, X: 5000}, api.OK}, {aimed("FitR", one, half, two, value.Int(-3)), api.Dest{Kind: api.DestFitR, X: 10000, Y: 5000, Z: 20000, W: -30000}, api.OK},
		{aimed("XYZ", value.Null(), ref(99), ref(9)), api.Dest{Kind: api.DestXYZ}, api.OK}, {aimed("XYZ", ref(6), ref(7), sample.Ref(6, 1)), api.Dest{Kind: api.DestXYZ, X: 10000, Y: -3}, api.OK},
		{aimed("FitH", value.Int(107374)), api.Dest{Kind: api.DestFitH, Y: 1073740000}, api.OK}, {aimed("FitH", value.Real(-api.MaxFix)), api.Dest{Kind: api.DestFitH, Y: -api.MaxFix}, api.OK}, {aimed("FitH", value.Int(107375)), api.Dest{}, api.ErrForm}, {aimed("FitH", value.Int(-api.MaxInt)), api.Dest{}, api.ErrForm},
		{sample.Array(ref(4), value.Name("Fit")), api.Dest{Page: 1, Kind: api.DestFit}, api.OK}, {sample.Array(sample.Ref(5, 7), value.Name("Fit")), api.Dest{Page: 2, Kind: api.DestFit}, api.OK},
		{sample.Array(ref(5), value.Name("Fit")), api.Dest{}, api.ErrNone}, {sample.Array(ref(2), value.Name("Fit")), api.Dest{}, api.ErrNone}, {sample.Array(ref(99), value.Name("Fit")), api.Dest{}, api.ErrNone}, {sample.Array(ref(11), value.Name("Fit")), api.Dest{}, api.ErrNone}, {sample.Array(ref(12), value.Name("Fit")), api.Dest{}, api.ErrNone},
		{sample.Array(), api.Dest{}, api.ErrForm}, {sample.Array(ref(3)), api.Dest{}, api.ErrForm}, {sample.Array(one, value.Name("Fit")), api.Dest{}, api.ErrForm}, {sample.Array(sample.Dict("Type", value.Name("Page")), value.Name("Fit")), api.Dest{}, api.ErrForm}, {sample.Array(value.Name("Fit"), ref(3)), api.Dest{}, api.ErrForm},
		{sample.Array(ref(3), value.String("Fit")), api.Dest{}, api.ErrForm}, {sample.Array(ref(3), ref(8)), api.Dest{}, api.ErrForm}, {aimed(""), api.Dest{}, api.ErrForm}, {aimed("fit"), api.Dest{}, api.ErrForm}, {aimed("FitB"), api.Dest{}, api.ErrForm}, {aimed("FitBH", one), api.Dest{}, api.ErrForm},
		{aimed("XYZ", one, one), api.Dest{}, api.ErrForm}, {aimed("XYZ", one, one, one, one), api.Dest{}, api.ErrForm}, {aimed("XYZ"), api.Dest{}, api.ErrForm}, {aimed("Fit", one), api.Dest{}, api.ErrForm}, {aimed("Fit", value.Null()), api.Dest{}, api.ErrForm}, {aimed("FitH"), api.Dest{}, api.ErrForm}, {aimed("FitH", one, one), api.Dest{}, api.ErrForm}, {aimed("FitV"), api.Dest{}, api.ErrForm}, {aimed("FitV", one, one), api.Dest{}, api.ErrForm}, {aimed("FitR", one, one, one), api.Dest{}, api.ErrForm}, {aimed("FitR", one, one, one, one, one), api.Dest{}, api.ErrForm},
		{aimed("FitH", value.Name("1")), api.Dest{}, api.ErrForm}, {aimed("FitH", ref(10)), api.Dest{}, api.ErrForm}, {aimed("FitH", value.Bool(false)), api.Dest{}, api.ErrForm}, {aimed("FitR", one, one, one, sample.Array()), api.Dest{}, api.ErrForm},
		{sample.Array(ref(99), value.Name("FitH"), value.Name("1")), api.Dest{}, api.ErrForm},
	} {
		if x, e := dest.Read(d, c.o); x != c.want || e != c.err {
			t.Errorf("Read %d = %v, %d, want %v, %d", i, x, e, c.want, c.err)
		}
	}
}

// Promises 39.1 and 39.3: what leads to a destination, and what does not.
func TestLeads(t *testing.T) {
	fit := aimed("Fit")
	stream := api.Object{Kind: api.KStream, Keys: []string{"D"}, Kids: []api.Object{fit}}
	list := []api.Object{fit, sample.Dict("D", ref(6)), value.String("a"), value.Name("b"), sample.Dict("D", value.String("a")), stream, value.Null(), sample.Dict("D", sample.Dict("D", fit)), sample.Dict("", fit)}
	dests := sample.Dict("a b c d e f g h i", fit, ref(6), ref(7), value.String("a"), ref(8), ref(11), ref(99), ref(13), value.Int(7))
	for i, c := range []struct {
		o           api.Object
		read, named api.Errno
	}{
		{fit, api.OK, api.OK}, {ref(6), api.OK, api.OK}, {ref(7), api.OK, api.OK}, {sample.Dict("D", fit), api.OK, api.OK}, {sample.Dict("D S", ref(6), value.Name("GoTo")), api.OK, api.OK},
		{value.String("a"), api.OK, api.ErrKind}, {value.Name("a"), api.OK, api.ErrKind}, {ref(8), api.OK, api.ErrKind}, {value.Name("b"), api.OK, api.ErrKind}, {ref(9), api.OK, api.ErrKind}, {value.String("c"), api.OK, api.ErrKind},
		{value.String("d"), api.ErrKind, api.ErrKind}, {value.String("e"), api.ErrKind, api.ErrKind}, {value.String("f"), api.ErrKind, api.ErrKind}, {value.String("g"), api.ErrKind, api.ErrKind}, {value.String("h"), api.ErrKind, api.ErrKind}, {value.String("i"), api.ErrKind, api.ErrKind},
		{value.String("A"), api.ErrNone, api.ErrKind}, {value.Name(""), api.ErrNone, api.ErrKind}, {value.String("z"), api.ErrNone, api.ErrKind},
		{ref(10), api.ErrKind, api.ErrKind}, {ref(11), api.ErrKind, api.ErrKind}, {ref(12), api.ErrKind, api.ErrKind}, {ref(13), api.ErrKind, api.ErrKind}, {ref(14), api.ErrKind, api.ErrKind}, {ref(99), api.ErrKind, api.ErrKind}, {ref(3), api.ErrKind, api.ErrKind},
		{sample.Dict("D", value.String("a")), api.ErrKind, api.ErrKind}, {sample.Dict("d", fit), api.ErrKind, api.ErrKind}, {value.Int(7), api.ErrKind, api.ErrKind}, {value.Null(), api.ErrKind, api.ErrKind}, {sample.Array(), api.ErrForm, api.ErrForm},
	} {
		d := fresh(map[string]api.Object{"Dests": dests}, list...)
		if x, e := dest.Read(d, c.o); e != c.read || (e == api.OK) != (x.Kind == api.DestFit) {
			t.Errorf("Read %d = %v, %d, want %d", i, x, e, c.read)
		}
		// The same as what a name stands for, in a tree and in a dictionary.
		d, _ = catalog.SetRoot(d, "Names", sample.Dict("Dests", sample.Dict("Names", sample.Array(value.String("n"), c.o))))
		want := c.named
		if c.o.Kind == api.KNull {
			want = api.ErrNone
		}
		if x, e := dest.Named(d, "n"); e != want || (e == api.OK) != (x.Kind == api.DestFit) {
			t.Errorf("Named %d = %v, %d, want %d", i, x, e, want)
		}
		if c.o.Kind != api.KNull {
			d = fresh(map[string]api.Object{"Dests": sample.Dict("n", c.o)}, list...)
			if x, e := dest.Named(d, "n"); e != want || (e == api.OK) != (x.Kind == api.DestFit) {
				t.Errorf("Named %d in a dictionary = %v, %d, want %d", i, x, e, want)
			}
		}
	}
}

// Promise 39.3: where a name is looked up.
func TestWhere(t *testing.T) {
	fit, high := aimed("Fit"), aimed("FitH", value.Int(1))
	tree := func(l ...api.Object) api.Object {
		return sample.Dict("Dests", sample.Dict("Names", sample.Array(l...)))
	}
	a, none := value.String("a"), sample.Dict("b", fit)
	stream := api.Object{Kind: api.KStream, Keys: []string{"a"}, Kids: []api.Object{fit}}
	list := []api.Object{tree(a, fit), sample.Dict("Names", sample.Array(a, fit)), sample.Dict("a", fit), stream, value.Null()}
	deep := sample.Dict("Kids Limits", sample.Array(ref(6)), sample.Array(a, a))
	for i, c := range []struct {
		names, dests api.Object
		list         []api.Object
		kind         int
		want         api.Errno
	}{
		{value.Null(), value.Null(), list, 0, api.ErrNone}, {tree(a, fit), value.Null(), list, 2, api.OK}, {ref(6), value.Null(), list, 2, api.OK}, {sample.Dict("Dests", ref(7)), value.Null(), list, 2, api.OK}, {tree(a, fit), sample.Dict("a", high), list, 2, api.OK},
		{value.Null(), sample.Dict("a", fit), list, 2, api.OK}, {value.Null(), ref(8), list, 2, api.OK}, {tree(), sample.Dict("a", high), list, 3, api.OK}, {tree(value.String("b"), fit), sample.Dict("a", high), list, 3, api.OK}, {tree(a, value.Null()), sample.Dict("a", high), list, 3, api.OK}, {ref(99), sample.Dict("a", high), list, 3, api.OK}, {sample.Dict("Dests", ref(10)), sample.Dict("a", high), list, 3, api.OK}, {sample.Dict("Else", fit), sample.Dict("a", high), list, 3, api.OK},
		{tree(a, ref(10)), sample.Dict("a", high), list, 0, api.ErrKind}, {tree(a, ref(99)), sample.Dict("a", high), list, 0, api.ErrKind}, {tree(a, value.Int(7)), sample.Dict("a", high), list, 0, api.ErrKind},
		{tree(a, value.Null()), value.Null(), list, 0, api.ErrNone}, {tree(), none, list, 0, api.ErrNone}, {value.Null(), ref(9), list, 0, api.ErrNone}, {value.Null(), sample.Array(fit), list, 0, api.ErrNone}, {value.Null(), ref(99), list, 0, api.ErrNone}, {value.Null(), none, list, 0, api.ErrNone},
		{tree(a), sample.Dict("a", high), list, 0, api.ErrName}, {sample.Dict("Dests", fit), sample.Dict("a", high), list, 0, api.ErrName}, {sample.Dict("Dests", sample.Dict("Kids", sample.Array(ref(7)))), sample.Dict("a", high), list, 0, api.ErrName},
		{sample.Dict("Dests", ref(6)), sample.Dict("a", high), []api.Object{deep}, 0, api.ErrDeep},
	} {
		entries := map[string]api.Object{"Names": c.names, "Dests": c.dests}
		for _, o := range []api.Object{a, value.Name("a")} {
			if x, e := dest.Read(fresh(entries, c.list...), o); x.Kind != c.kind || e != c.want {
				t.Errorf("Read %d = %v, %d, want %d", i, x, e, c.want)
			}
		}
		if x, e := dest.Named(fresh(entries, c.list...), "a"); x.Kind != c.kind || e != c.want {
			t.Errorf("Named %d = %v, %d, want %d", i, x, e, c.want)
		}
	}
}

// Promises 39.1 to 39.4: a document that is invalid is reported first, and then an object that is.
func TestInvalid(t *testing.T) {
	x := api.Dest{Kind: 99}
	for i, b := range sample.BadDocs() {
		for _, o := range []api.Object{ref(1), value.Name("a"), {Kind: 99}} {
			if x, e := dest.Read(b.Is, o); e != b.Err || x != (api.Dest{}) {
				t.Errorf("Read of document %d = %v, %d, want %d", i, x, e, b.Err)
			}
		}
		if x, e := dest.Named(b.Is, "a"); e != b.Err || x != (api.Dest{}) {
			t.Errorf("Named of document %d = %v, %d, want %d", i, x, e, b.Err)
		}
		if o, e := dest.Make(b.Is, x); e != b.Err || o.Kind != 0 {
			t.Errorf("Make of document %d = %v, %d, want %d", i, o, e, b.Err)
		}
		if d, e := dest.SetNamed(b.Is, strings.Repeat("n", api.MaxText+1), x); e != b.Err || len(d.Items) > 0 || d.Trailer.Kind != 0 {
			t.Errorf("SetNamed of document %d = %s, %d, want %d", i, brief(d), e, b.Err)
		}
		if l, e := dest.List(b.Is); e != b.Err || len(l) > 0 {
			t.Errorf("List of document %d = %v, %d, want %d", i, l, e, b.Err)
		}
	}
	for i, b := range sample.BadObjects() {
		if x, e := dest.Read(broken(nil), b.Is); e != b.Err || x != (api.Dest{}) {
			t.Errorf("Read of object %d = %v, %d, want %d", i, x, e, b.Err)
		}
	}
}

// Promise 39.1: the errors of an array, of the pages and of the reference, in their order.
func TestReadOrder(t *testing.T) {
	for i, c := range []struct {
		o    api.Object
		want api.Errno
	}{
		{value.Int(7), api.ErrKind}, {sample.Dict("D", value.Int(7)), api.ErrKind}, {aimed("Fix"), api.ErrForm}, {aimed("Fit", value.Int(7)), api.ErrForm}, {aimed("Fit"), api.ErrPage}, {sample.Array(ref(99), value.Name("Fit")), api.ErrPage}, {value.String("a"), api.ErrNone},
	} {
		if x, e := dest.Read(broken(nil), c.o); e != c.want || x != (api.Dest{}) {
			t.Errorf("Read %d = %v, %d, want %d", i, x, e, c.want)
		}
	}
}

// Promise 39.2.
func TestMake(t *testing.T) {
	const far = api.MaxFix + 1
	fit, xyz, high, wide, all := api.DestFit, api.DestXYZ, api.DestFitH, api.DestFitV, api.DestFitR
	long := value.Real(-api.MaxFix)
	for i, c := range []struct {
		x    api.Dest
		want api.Object
		err  api.Errno
	}{
		{api.Dest{Kind: fit}, aimed("Fit"), api.OK}, {api.Dest{Page: 2, Kind: fit}, sample.Array(sample.Ref(5, 7), value.Name("Fit")), api.OK},
		{api.Dest{Kind: xyz, X: 10000, Y: -20000, Z: 1}, aimed("XYZ", value.Int(1), value.Int(-2), value.Real(1)), api.OK}, {api.Dest{Kind: high, Y: 15000}, aimed("FitH", value.Real(15000)), api.OK}, {api.Dest{Kind: wide, X: -10001}, aimed("FitV", value.Real(-10001)), api.OK}, {api.Dest{Kind: all, X: -api.MaxFix, Y: 0, Z: 1073740000, W: api.MaxFix}, aimed("FitR", long, value.Int(0), value.Int(107374), value.Real(api.MaxFix)), api.OK}, {api.Dest{Kind: xyz}, aimed("XYZ", value.Int(0), value.Int(0), value.Int(0)), api.OK},
		{api.Dest{}, value.Null(), api.ErrKind}, {api.Dest{Kind: -1, X: far}, value.Null(), api.ErrKind}, {api.Dest{Kind: 6}, value.Null(), api.ErrKind}, {api.Dest{Kind: math.MaxInt}, value.Null(), api.ErrKind},
		{api.Dest{Kind: xyz, X: far, W: 1}, value.Null(), api.ErrRange}, {api.Dest{Kind: high, Y: -far}, value.Null(), api.ErrRange}, {api.Dest{Kind: xyz, Z: far}, value.Null(), api.ErrRange}, {api.Dest{Kind: all, W: math.MinInt64}, value.Null(), api.ErrRange}, {api.Dest{Kind: fit, X: 1, W: far}, value.Null(), api.ErrRange}, {api.Dest{Kind: fit, Y: math.MaxInt64}, value.Null(), api.ErrRange},
		{api.Dest{Kind: xyz, W: 1, Page: 3}, value.Null(), api.ErrArg}, {api.Dest{Kind: fit, X: 1}, value.Null(), api.ErrArg}, {api.Dest{Kind: fit, Y: 1}, value.Null(), api.ErrArg}, {api.Dest{Kind: fit, Z: 1}, value.Null(), api.ErrArg}, {api.Dest{Kind: fit, W: -1}, value.Null(), api.ErrArg}, {api.Dest{Kind: high, X: 1}, value.Null(), api.ErrArg}, {api.Dest{Kind: wide, Y: 1}, value.Null(), api.ErrArg}, {api.Dest{Kind: wide, X: 1, Z: -1}, value.Null(), api.ErrArg},
		{api.Dest{Kind: fit, Page: 3}, value.Null(), api.ErrRange}, {api.Dest{Kind: fit, Page: -1}, value.Null(), api.ErrRange}, {api.Dest{Kind: fit, Page: math.MaxInt}, value.Null(), api.ErrRange}, {api.Dest{Kind: fit, Page: math.MinInt}, value.Null(), api.ErrRange},
	} {
		d := fresh(nil)
		if o, e := dest.Make(d, c.x); !value.Same(o, c.want) || e != c.err {
			t.Errorf("Make %d = %v, %d, want %v, %d", i, o, e, c.want, c.err)
		}
		want := c.err
		if want == api.OK || c.x == (api.Dest{Kind: fit, Page: c.x.Page}) {
			want = api.ErrPage
		}
		if o, e := dest.Make(broken(nil), c.x); o.Kind != 0 || e != want {
			t.Errorf("Make %d without boxes = %v, %d, want %d", i, o, e, want)
		}
	}
}

// Promise 39.4: where the tree is stored.
func TestSetNamed(t *testing.T) {
	entry := sample.Dict("Names", sample.Array(value.String("n"), aimed("Fit")))
	else7 := sample.Dict("Dests Else", ref(7), value.Int(7))
	list := sample.Array(value.Int(7))
	for i, c := range []struct {
		d     api.Doc
		added api.Object
		names api.Object
	}{
		{fresh(nil, list), entry, sample.Dict("Dests", ref(7))},
		{fresh(map[string]api.Object{"Names": sample.Dict("Else", value.Int(7))}, list), entry, else7},
		{fresh(map[string]api.Object{"Names": ref(6)}, sample.Dict("Else", value.Int(7))), entry, else7},
		{fresh(map[string]api.Object{"Names": ref(6)}, list), entry, sample.Dict("Dests", ref(7))},
		{fresh(map[string]api.Object{"Names": list}, list), entry, sample.Dict("Dests", ref(7))},
		{fresh(map[string]api.Object{"Names": ref(7)}, list), entry, sample.Dict("Dests", ref(7))},
		{fresh(map[string]api.Object{"Names": ref(99)}, list), entry, sample.Dict("Dests", ref(7))},
		{fresh(map[string]api.Object{"Names": sample.Dict("Dests Else", ref(99), value.Int(7))}, list), entry, else7},
		{fresh(map[string]api.Object{"Names": sample.Dict("Dests Else", ref(6), value.Int(7))}, sample.Dict("Names", sample.Array(value.String("m"), value.Null(), value.String("n"), value.Int(1), value.String("o"), ref(99)))), sample.Dict("Names", sample.Array(value.String("m"), value.Null(), value.String("n"), aimed("Fit"), value.String("o"), ref(99))), else7},
	} {
		want, wantErr := catalog.SetRoot(c.d, "Names", c.names)
		want.Items = append(want.Items, item(7, c.added))
		got, e := dest.SetNamed(c.d, "n", api.Dest{Kind: api.DestFit})
		shown := brief(got)
		if wrong := sample.Wrong(c.d, got, e, want, wantErr); wrong != "" {
			t.Errorf("SetNamed %d = %s is wrong: %s", i, shown, wrong)
		}
	}
}

// Promise 39.4: the tree is made as broad as may be.
func TestSetNamedFan(t *testing.T) {
	d := fresh(nil)
	for i := range 2*api.MaxFan + 1 {
		more, e := dest.SetNamed(d, strconv.Itoa(100+i), api.Dest{Kind: api.DestFit})
		nodes := 1 + i/api.MaxFan
		if nodes > 1 {
			nodes++
		}
		if added := len(more.Items) - len(d.Items); added != nodes || e != api.OK {
			t.Errorf("SetNamed has added %d nodes for %d names, %d, want %d", added, i+1, e, nodes)
		}
		d = more
	}
	if l, e := dest.List(d); len(l) != 2*api.MaxFan+1 || e != api.OK {
		t.Errorf("List = %q, %d", l, e)
	}
}

// entries returns so many entries with keys of four digits, with a value.
func entries(size int, o api.Object) []api.Entry {
	var l []api.Entry
	for i := range size {
		l = append(l, api.Entry{Key: strconv.Itoa(10000 + i)[1:], Val: o})
	}
	return l
}

// Promise 39.4: the errors, in their order.
func TestSetNamedErrors(t *testing.T) {
	fit, bad, long := api.Dest{Kind: api.DestFit}, sample.Dict("Dests", value.Int(7)), strings.Repeat("n", api.MaxText)
	stored := func(size int, o api.Object) api.Doc {
		d, root, _ := names.Make(fresh(nil), entries(size, o), api.MaxFan)
		d, _ = catalog.SetRoot(d, "Names", sample.Dict("Dests", root))
		return d
	}
	// An array of its own lets a value be nested deeper than a dictionary with the array does.
	deep := sample.Dict("Dests", sample.Dict("Names", ref(6)))
	value22, value23 := sample.Nest(value.Int(1), api.MaxDepth-3), sample.Nest(value.Int(1), api.MaxDepth-2)
	full := fresh(nil)
	full, _ = docs.Put(full, item(api.MaxNum, value.Null()))
	broad := fresh(nil)
	broad.Items[0].Obj = sample.Broad(api.MaxKids - 1)
	broad.Items[0].Obj.Keys, broad.Items[0].Obj.Kids = append(broad.Items[0].Obj.Keys, "Pages"), append(broad.Items[0].Obj.Kids, ref(2))
	none := map[string]api.Object{}
	for i, c := range []struct {
		d    api.Doc
		name string
		x    api.Dest
		want api.Errno
	}{
		{fresh(none), "", fit, api.OK}, {fresh(none), long, fit, api.OK},
		{fresh(map[string]api.Object{"Names": bad}), long + "n", api.Dest{}, api.ErrKind}, {fresh(map[string]api.Object{"Names": bad}), long + "n", api.Dest{Kind: api.DestFit, Page: 3}, api.ErrRange}, {broken(map[string]api.Object{"Names": bad}), long + "n", fit, api.ErrPage},
		{fresh(map[string]api.Object{"Names": bad}), long + "n", fit, api.ErrLong}, {full, long + "n", fit, api.ErrLong}, {fresh(map[string]api.Object{"Names": bad}), long, fit, api.ErrName}, {fresh(map[string]api.Object{"Names": sample.Dict("Dests", sample.Dict("Names", sample.Array(value.String("b"), value.Int(1), value.String("a"), value.Int(1))))}), "n", fit, api.ErrName},
		{stored(api.MaxKids-1, value.Int(1)), "n", fit, api.OK}, {stored(api.MaxKids, value.Int(1)), "n", fit, api.ErrMany}, {stored(api.MaxKids, value.Int(1)), "0007", fit, api.OK},
		{fresh(map[string]api.Object{"Names": deep}, sample.Array(value.String("a"), value22)), "n", fit, api.OK}, {fresh(map[string]api.Object{"Names": deep}, sample.Array(value.String("a"), value23)), "n", fit, api.ErrDeep}, {fresh(map[string]api.Object{"Names": deep}, sample.Array(value.String("a"), value23)), "a", fit, api.OK},
		{full, "n", fit, api.ErrFull}, {broad, "n", fit, api.ErrMany},
		{fresh(map[string]api.Object{"Names": ref(6)}, sample.Broad(api.MaxKids)), "n", fit, api.ErrMany}, {fresh(map[string]api.Object{"Names": ref(6)}, sample.Broad(api.MaxKids-1)), "n", fit, api.OK}, {fresh(map[string]api.Object{"Names": ref(6)}, sample.Dict("Else", sample.Nest(value.Int(1), api.MaxDepth-2))), "n", fit, api.ErrDeep}, {fresh(map[string]api.Object{"Names": ref(6)}, sample.Dict("Else", sample.Nest(value.Int(1), api.MaxDepth-3))), "n", fit, api.OK},
	} {
		d, e := dest.SetNamed(c.d, c.name, c.x)
		if e != c.want || (e == api.OK) != (len(d.Items) > 0) || e != api.OK && d.Trailer.Kind != 0 {
			t.Errorf("SetNamed %d = %s, %d, want %d", i, brief(d), e, c.want)
		}
		if x, back := dest.Named(d, c.name); e == api.OK && (x != c.x || back != api.OK) {
			t.Errorf("Named after SetNamed %d = %v, %d", i, x, back)
		}
	}
}

// Promise 39.4.
func TestList(t *testing.T) {
	tree := sample.Dict("Dests", sample.Dict("Names", sample.Array(value.String("a"), value.Null(), value.String("b"), value.Int(7), value.String("\xff"), ref(99))))
	bad := sample.Dict("Dests", value.Int(7))
	stream := api.Object{Kind: api.KStream, Keys: []string{"x"}, Kids: []api.Object{value.Int(1)}}
	dests := sample.Dict("A b c", value.Int(1), value.Int(1), ref(99))
	for i, c := range []struct {
		names, dests api.Object
		want         []string
		err          api.Errno
	}{
		{value.Null(), value.Null(), nil, api.OK}, {tree, value.Null(), []string{"a", "b", "\xff"}, api.OK}, {value.Null(), dests, []string{"A", "b", "c"}, api.OK}, {tree, dests, []string{"A", "a", "b", "c", "\xff"}, api.OK},
		{value.Null(), ref(7), []string{"A", "b", "c"}, api.OK}, {ref(99), ref(99), nil, api.OK}, {value.Int(7), value.Int(7), nil, api.OK}, {sample.Dict("Dests", ref(99)), ref(6), nil, api.OK}, {value.Null(), sample.Array(dests), nil, api.OK},
		{bad, dests, nil, api.ErrName}, {sample.Dict("Dests", dests), dests, nil, api.ErrName}, {sample.Dict("Dests", sample.Dict("Names", sample.Array(value.String("b"), value.Int(1), value.String("a"), value.Int(1)))), dests, nil, api.ErrName},
	} {
		d := broken(map[string]api.Object{"Names": c.names, "Dests": c.dests}, stream, dests)
		was := sample.Copy(d)
		l, e := dest.List(d)
		if !slices.Equal(l, c.want) || e != c.err {
			t.Errorf("List %d = %q, %d, want %q, %d", i, l, e, c.want, c.err)
		}
		for i := range l {
			l[i] += "x"
		}
		if !docs.Same(d, was) {
			t.Errorf("List %d shares memory", i)
		}
	}
}

// A book lists the pages once, however many destinations it reads and makes.
func TestBookIsFast(t *testing.T) {
	d, _ := catalog.New(api.MaxPages)
	start := time.Now()
	b := dest.Of(d)
	for n := range 20000 {
		x := api.Dest{Page: n % api.MaxPages, Kind: api.DestFitV, X: int64(n)}
		o, e := b.Make(x)
		if back, readErr := b.Read(o); back != x || e != api.OK || readErr != api.OK {
			t.Fatalf("destination %d = %v, %d, %d", n, back, e, readErr)
		}
	}
	if took := time.Since(start); took > 5*time.Second {
		t.Errorf("it took %v", took)
	}
}
