package docs_test

import (
	"fmt"
	"math"
	"slices"
	"strings"
	"testing"

	"foliant/api"
	"foliant/docs"
	"foliant/sample"
	"foliant/value"
)

// brief shows the beginning of anything.
func brief(x any) string { return fmt.Sprintf("%.200s", fmt.Sprintf("%q", fmt.Sprint(x))) }

// item returns an item of generation 0.
func item(num int, o api.Object) api.Item { return api.Item{Num: num, Obj: o} }

// catalog returns an item that can be the catalog.
func catalog(num int) api.Item { return item(num, sample.Dict("")) }

// typed returns a stream of a type.
func typed(t api.Object) api.Object {
	return api.Object{Kind: api.KStream, Keys: []string{"Type"}, Kids: []api.Object{t}}
}

// sameItem reports whether two items are equal.
func sameItem(a, b api.Item) bool {
	return a.Num == b.Num && a.Gen == b.Gen && value.Same(a.Obj, b.Obj)
}

// same reports whether two documents are equal.
func same(a, b api.Doc) bool {
	return slices.EqualFunc(a.Items, b.Items, sameItem) && value.Same(a.Trailer, b.Trailer)
}

// clone returns an equal document that shares no memory with d.
func clone(d api.Doc) api.Doc {
	d.Trailer = value.Clone(d.Trailer)
	d.Items = slices.Clone(d.Items)
	for i := range d.Items {
		d.Items[i].Obj = value.Clone(d.Items[i].Obj)
	}
	return d
}

// badItems are items that no document has, with their errors.
func badItems() []struct {
	item api.Item
	want api.Errno
} {
	return []struct {
		item api.Item
		want api.Errno
	}{
		{item(0, value.Int(1)), api.ErrRange}, {item(-1, value.Int(1)), api.ErrRange}, {item(api.MaxNum+1, value.Int(1)), api.ErrRange}, {item(math.MinInt, api.Object{Kind: 99}), api.ErrRange}, {item(math.MaxInt, value.Ref(0, 0)), api.ErrRange},
		{api.Item{Num: 5, Gen: -1, Obj: value.Int(1)}, api.ErrRange}, {api.Item{Num: 5, Gen: api.MaxGen + 1, Obj: api.Object{Kind: 99}}, api.ErrRange},
		{item(5, api.Object{Kind: 99}), api.ErrKind}, {item(5, value.Name("\x00")), api.ErrForm}, {item(5, value.Int(api.MaxInt+1)), api.ErrRange}, {item(5, value.Ref(0, 0)), api.ErrRange}, {item(5, sample.Nest(value.Int(1), api.MaxDepth)), api.ErrDeep},
		{item(5, value.String(strings.Repeat("s", api.MaxString+1))), api.ErrLong}, {item(5, sample.Wide(api.MaxKids+1)), api.ErrMany}, {item(5, api.Object{Kind: api.KStream, Keys: []string{"Length"}, Kids: []api.Object{value.Int(0)}}), api.ErrForm},
		{item(5, api.Object{Kind: api.KStream, Keys: []string{"A", "Type"}, Kids: []api.Object{value.Int(math.MaxInt64), value.Name("XRef")}}), api.ErrRange},
		{item(5, value.Ref(1, 0)), api.ErrKind}, {item(5, value.Ref(5, 0)), api.ErrKind}, {item(5, typed(value.Name("ObjStm"))), api.ErrKind}, {item(5, typed(value.Name("XRef"))), api.ErrKind},
	}
}

// oddItems are items that look like bad ones.
func oddItems() []api.Item {
	return []api.Item{
		item(5, typed(value.Name("Xref"))), item(5, typed(value.Name("ObjStmX"))), item(5, typed(value.Name(""))), item(5, typed(value.String("XRef"))), item(5, typed(value.Array(value.Name("XRef")))), item(5, typed(value.Ref(1, 0))),
		item(5, sample.Dict("Type", value.Name("ObjStm"))), item(5, sample.Dict("Type", value.Name("XRef"))), item(5, value.Name("XRef")), item(5, value.Array(value.Ref(5, 0))), item(5, value.Null()),
		item(5, api.Object{Kind: api.KStream, Keys: []string{"Subtype"}, Kids: []api.Object{value.Name("XRef")}}), {Num: api.MaxNum, Gen: api.MaxGen, Obj: value.Null()}, {Num: 2, Gen: api.MaxGen, Obj: typed(sample.Dict("Type", value.Name("ObjStm")))},
	}
}

// A faulty document has an error.
type faulty struct {
	doc  api.Doc
	want api.Errno
}

// faults returns faulty documents.
func faults() []faulty {
	root := value.Ref(1, 0)
	one, two, three := catalog(1), item(2, value.Int(7)), item(3, value.Int(7))
	with := func(trailer api.Object, items ...api.Item) api.Doc { return api.Doc{Items: items, Trailer: trailer} }
	bad := api.Object{Kind: 99}
	list := []faulty{
		{sample.Doc(1, two, one), api.ErrTwice}, {sample.Doc(1, one, one), api.ErrTwice}, {sample.Doc(1, one, two, two, three), api.ErrTwice}, {sample.Doc(1, one, three, two), api.ErrTwice}, {sample.Doc(1, one, item(1, bad)), api.ErrTwice}, {sample.Doc(1, one, item(1, root)), api.ErrTwice},
		{sample.Doc(1, one, item(0, bad)), api.ErrRange}, {sample.Doc(1, one, api.Item{Num: 1, Gen: -1}), api.ErrRange}, {sample.Doc(1, one, two, item(1, bad), item(0, bad)), api.ErrTwice}, {sample.Doc(1, one, item(2, bad), item(2, bad)), api.ErrKind}, {sample.Doc(1, one, item(2, value.Name("\x00")), item(0, bad)), api.ErrForm},
		{with(bad, one, two, item(2, bad)), api.ErrTwice}, {with(bad, one, item(2, root)), api.ErrKind}, {with(value.Name("\x00"), one, item(2, typed(value.Name("XRef")))), api.ErrKind},
		{with(bad, one), api.ErrKind}, {with(value.Name("\x00"), one), api.ErrForm}, {with(value.Ref(0, 0), one), api.ErrRange}, {with(sample.Dict("A Root", value.Null(), root), one), api.ErrForm}, {with(sample.Dict("Root", value.Ref(1, -1)), one), api.ErrRange}, {with(sample.Dict("Root A", root, root), one), api.ErrForm}, {with(sample.Dict("A", sample.Nest(root, api.MaxDepth)), one), api.ErrDeep},
		{with(value.Null(), one), api.ErrKind}, {with(root, one), api.ErrKind}, {with(value.Array(root), one), api.ErrKind}, {with(api.Object{Kind: api.KStream, Keys: []string{"Root"}, Kids: []api.Object{root}}, one), api.ErrKind},
		{with(sample.Dict("Root Size", root, value.Int(2)), one), api.ErrForm}, {with(sample.Dict("A ID Info Root", root, root, root, root), one), api.ErrForm}, {with(sample.Dict("Prev", root), one), api.ErrForm}, {with(sample.Dict("Encrypt ID", root, root)), api.ErrForm}, {with(sample.Dict("", root)), api.ErrTrail}, {with(sample.Dict("info Root", root, root), one), api.ErrForm}, {with(api.Object{Kind: api.KDict, Keys: []string{"", "Root"}, Kids: []api.Object{root, root}}, one), api.ErrForm},
		{with(sample.Dict("")), api.ErrTrail}, {with(sample.Dict(""), one), api.ErrTrail}, {with(sample.Dict("ID Info", root, root), one), api.ErrTrail}, {with(sample.Dict("Root", root)), api.ErrTrail}, {with(sample.Dict("Root", value.Ref(2, 0)), one), api.ErrTrail}, {with(sample.Dict("Root", value.Ref(1, 1)), one), api.ErrTrail}, {with(sample.Dict("Root", root), api.Item{Num: 1, Gen: 2, Obj: sample.Dict("")}), api.ErrTrail},
		{with(sample.Dict("Root", sample.Dict("")), one), api.ErrTrail}, {with(sample.Dict("Root", value.Int(1)), one), api.ErrTrail}, {with(sample.Dict("Root", value.Array(root)), one), api.ErrTrail}, {with(sample.Dict("Root", value.Ref(2, 0)), one, two), api.ErrTrail}, {with(sample.Dict("Root", root), item(1, typed(value.Name("Catalog")))), api.ErrTrail}, {with(sample.Dict("Root", root), item(1, value.Null())), api.ErrTrail}, {with(sample.Dict("Root", root), item(1, value.Array(sample.Dict("")))), api.ErrTrail},
		{api.Doc{}, api.ErrKind},
	}
	for _, c := range badItems() {
		list = append(list, faulty{sample.Doc(2, catalog(2), c.item), c.want}, faulty{with(bad, c.item, catalog(2)), c.want})
	}
	return list
}

// Promise 19.1.
func TestCheck(t *testing.T) {
	for i, d := range sample.Docs() {
		if e := docs.Check(d); e != api.OK {
			t.Errorf("Check of document %d = %d", i, e)
		}
	}
	for _, i := range oddItems() {
		d := sample.Doc(1, catalog(1), i)
		if e := docs.Check(d); e != api.OK {
			t.Errorf("Check(%s) = %d", brief(d), e)
		}
	}
	info := sample.Dict("ID Info Root", value.Int(1), value.Ref(9, 9), value.Ref(1, 0))
	if e := docs.Check(api.Doc{Items: []api.Item{catalog(1)}, Trailer: info}); e != api.OK {
		t.Errorf("Check of a document with ID and Info = %d", e)
	}
	for i, f := range faults() {
		if e := docs.Check(f.doc); e != f.want {
			t.Errorf("Check %d (%s) = %d, want %d", i, brief(f.doc), e, f.want)
		}
	}
}

// Promise 19.1.
func TestSame(t *testing.T) {
	list := sample.Docs()
	for _, f := range faults() {
		list = append(list, f.doc)
	}
	for i, a := range list {
		for j, b := range list {
			if got := docs.Same(a, clone(b)); got != same(a, b) || i == j && !got {
				t.Errorf("Same(%d, %d) = %v", i, j, got)
			}
		}
	}
	d := sample.Doc(1, catalog(1), item(2, value.Array(value.Int(7))), item(3, value.Int(1)))
	for i, change := range []func(*api.Doc){
		func(d *api.Doc) { d.Items[1].Num = 4 }, func(d *api.Doc) { d.Items[1].Gen = 1 }, func(d *api.Doc) { d.Items[1].Obj.Kids[0].N = 8 }, func(d *api.Doc) { d.Items[2].Obj.Kind = api.KReal }, func(d *api.Doc) { d.Items[2].Obj.S = "x" },
		func(d *api.Doc) { d.Items = d.Items[:2] }, func(d *api.Doc) { d.Items = append(d.Items, item(4, value.Int(1))) }, func(d *api.Doc) { d.Items[1], d.Items[2] = d.Items[2], d.Items[1] }, func(d *api.Doc) { d.Items = nil },
		func(d *api.Doc) { d.Trailer.Kids[0].G = 1 }, func(d *api.Doc) { d.Trailer.Keys[0] = "root" }, func(d *api.Doc) { d.Trailer = api.Object{} }, func(d *api.Doc) { d.Trailer.N = 1 },
	} {
		other := clone(d)
		change(&other)
		if docs.Same(d, other) || docs.Same(other, d) {
			t.Errorf("change %d is not seen", i)
		}
	}
	empty := sample.Doc(1)
	empty.Items = []api.Item{}
	empty.Trailer.S = ""
	if !docs.Same(empty, sample.Doc(1)) {
		t.Error("nil and empty items differ")
	}
}

// Promise 19.1.
func TestGet(t *testing.T) {
	for i, d := range sample.Docs() {
		at := 0
		for num := range 40 {
			for at < len(d.Items) && d.Items[at].Num < num {
				at++
			}
			want, found := api.Item{}, at < len(d.Items) && d.Items[at].Num == num
			if found {
				want = d.Items[at]
			}
			if got, ok := docs.Get(d, num); !sameItem(got, want) || ok != found {
				t.Errorf("Get(%d, %d) = %s, %v", i, num, brief(got), ok)
			}
		}
		for _, num := range []int{math.MinInt, -1, 0, api.MaxNum + 1, math.MaxInt} {
			if got, ok := docs.Get(d, num); !sameItem(got, api.Item{}) || ok {
				t.Errorf("Get(%d, %d) = %s, %v", i, num, brief(got), ok)
			}
		}
	}
	odd := api.Doc{Items: []api.Item{item(5, value.Int(1)), item(3, value.Int(2)), {Num: 5, Gen: 1, Obj: value.Int(3)}, item(-4, value.Int(4)), item(3, value.Ref(0, 0)), item(math.MaxInt, api.Object{Kind: 99}), item(0, value.Int(6)), item(1, value.Int(5))}}
	for _, i := range []int{0, 1, 3, 5, 6, 7} {
		if got, ok := docs.Get(odd, odd.Items[i].Num); !sameItem(got, odd.Items[i]) || !ok {
			t.Errorf("Get(%d) of an invalid document = %s, %v", odd.Items[i].Num, brief(got), ok)
		}
	}
	if got, ok := docs.Get(odd, 2); !sameItem(got, api.Item{}) || ok {
		t.Errorf("Get(2) of an invalid document = %s, %v", brief(got), ok)
	}
}

// Promise 19.3.
func TestFollow(t *testing.T) {
	d := sample.Doc(1, catalog(1), api.Item{Num: 3, Gen: 2, Obj: value.Array(value.Int(7), value.Ref(1, 0))}, item(4, value.Null()), item(6, sample.Streams()[4]))
	odd := api.Doc{Items: []api.Item{item(5, value.Ref(1, 0)), item(1, value.Int(1)), {Num: 5, Gen: 1, Obj: value.Int(3)}, item(1, value.Int(2)), item(math.MaxInt, value.Int(8)), {Num: -4, Gen: -1, Obj: api.Object{Kind: 77, S: "x"}}}}
	for i, c := range []struct {
		d       api.Doc
		o, want api.Object
	}{
		{d, value.Ref(1, 0), sample.Dict("")}, {d, value.Ref(3, 2), d.Items[1].Obj}, {d, value.Ref(4, 0), value.Null()}, {d, value.Ref(6, 0), d.Items[3].Obj},
		{d, value.Ref(1, 1), value.Null()}, {d, value.Ref(3, 0), value.Null()}, {d, value.Ref(3, 1), value.Null()}, {d, value.Ref(2, 0), value.Null()}, {d, value.Ref(5, 0), value.Null()}, {d, value.Ref(0, 0), value.Null()}, {d, value.Ref(-1, 0), value.Null()}, {d, value.Ref(api.MaxNum, 0), value.Null()}, {d, api.Object{Kind: api.KRef, N: math.MaxInt64}, value.Null()}, {d, api.Object{Kind: api.KRef, N: 1<<32 + 1}, value.Null()}, {d, api.Object{Kind: api.KRef, N: math.MinInt64}, value.Null()},
		{odd, value.Ref(5, 0), value.Ref(1, 0)}, {odd, value.Ref(5, 1), value.Null()}, {odd, value.Ref(1, 0), value.Int(1)}, {odd, value.Ref(math.MaxInt, 0), value.Int(8)}, {odd, value.Ref(-4, -1), odd.Items[5].Obj}, {api.Doc{}, value.Ref(1, 0), value.Null()},
		{d, api.Object{Kind: api.KRef, N: 3, G: 2, S: "x"}, d.Items[1].Obj}, {d, api.Object{Kind: api.KInt, N: 3, G: 2}, api.Object{Kind: api.KInt, N: 3, G: 2}}, {d, api.Object{Kind: 99, N: 1}, api.Object{Kind: 99, N: 1}}, {api.Doc{}, value.Array(value.Ref(1, 0)), value.Array(value.Ref(1, 0))},
	} {
		if got := docs.Follow(c.d, c.o); !value.Same(got, c.want) {
			t.Errorf("Follow %d (%s) = %s, want %s", i, brief(c.o), brief(got), brief(c.want))
		}
		if got := docs.Path(c.d, c.o); !value.Same(got, c.want) {
			t.Errorf("Path %d (%s) = %s, want %s", i, brief(c.o), brief(got), brief(c.want))
		}
	}
	for _, o := range append(sample.Objects(), sample.Streams()...) {
		if got := docs.Follow(d, o); o.Kind != api.KRef && !value.Same(got, o) {
			t.Errorf("Follow(%s) = %s", brief(o), brief(got))
		}
	}
}

// Promise 19.3.
func TestPath(t *testing.T) {
	num, ref := value.Int, value.Ref
	stream := api.Object{Kind: api.KStream, Keys: []string{"Back", "Res"}, Kids: []api.Object{ref(1, 0), sample.Dict("Font", ref(2, 7))}, S: "x"}
	d := sample.Doc(1,
		item(1, sample.Dict("A B C D S", num(1), ref(2, 7), ref(2, 0), sample.Dict("A", sample.Dict("A", ref(1, 0))), ref(4, 0))),
		api.Item{Num: 2, Gen: 7, Obj: sample.Dict("A Up", value.Array(num(5)), ref(1, 0))}, item(3, value.Null()), item(4, stream))
	odd := api.Doc{Items: []api.Item{item(2, sample.Dict("A N R", value.Ref(1, 0), value.Null(), value.Ref(2, 0))), item(1, ref(2, 0)), item(2, num(9)), item(3, api.Object{Kind: api.KDict, Keys: []string{"A", "A", "B"}, Kids: []api.Object{num(1), num(2)}})}}
	for i, c := range []struct {
		d    api.Doc
		o    api.Object
		keys string
		want api.Object
	}{
		{d, ref(1, 0), "A", num(1)}, {d, ref(1, 0), "B", d.Items[1].Obj}, {d, ref(1, 0), "C", value.Null()}, {d, ref(1, 0), "B A", value.Array(num(5))}, {d, ref(1, 0), "B Up", d.Items[0].Obj}, {d, ref(1, 0), "B Up B Up B A", value.Array(num(5))}, {d, ref(1, 0), "D A A D A A A", num(1)}, {d, ref(1, 0), "S", stream}, {d, ref(1, 0), "S Res Font A", value.Array(num(5))}, {d, ref(1, 0), "S Back A", num(1)},
		{d, ref(1, 0), "X", value.Null()}, {d, ref(1, 0), "A A", value.Null()}, {d, ref(1, 0), "C A", value.Null()}, {d, ref(1, 0), "B A X", value.Null()}, {d, ref(1, 0), "B A 0", value.Null()}, {d, ref(1, 0), "X A", value.Null()}, {d, ref(1, 1), "A", value.Null()}, {d, ref(3, 0), "A", value.Null()}, {d, ref(9, 0), "A", value.Null()}, {d, ref(1, 0), "S Length", value.Null()}, {d, ref(1, 0), "a", value.Null()},
		{d, d.Trailer, "Root", d.Items[0].Obj}, {d, d.Trailer, "Root D A A B Up A", num(1)}, {d, d.Trailer, "Info", value.Null()}, {d, num(1), "A", value.Null()}, {d, value.Array(ref(1, 0)), "A", value.Null()}, {d, value.Null(), "A B", value.Null()}, {d, stream, "Back B A", value.Array(num(5))}, {d, value.Name("A"), "A", value.Null()},
		{odd, ref(2, 0), "A", ref(2, 0)}, {odd, ref(2, 0), "A A", value.Null()}, {odd, ref(2, 0), "N", value.Null()}, {odd, ref(2, 0), "N N", value.Null()}, {odd, ref(2, 0), "R R R A", ref(2, 0)}, {odd, ref(3, 0), "A", num(1)}, {odd, ref(3, 0), "B", value.Null()}, {odd, ref(1, 0), "A", value.Null()}, {api.Doc{}, ref(1, 0), "A", value.Null()}, {api.Doc{}, sample.Dict("A", num(1)), "A", num(1)}, {api.Doc{}, sample.Dict("A", ref(1, 0)), "A", value.Null()},
	} {
		if got := docs.Path(c.d, c.o, strings.Fields(c.keys)...); !value.Same(got, c.want) {
			t.Errorf("Path %d (%s, %s) = %s, want %s", i, brief(c.o), c.keys, brief(got), brief(c.want))
		}
	}
	if got := docs.Path(d, api.Object{Kind: api.KDict, Keys: []string{""}, Kids: []api.Object{ref(1, 0)}}, "", "A"); !value.Same(got, num(1)) {
		t.Errorf("Path with an empty key = %s", brief(got))
	}
}

// Promise 19.4.
func TestTrailer(t *testing.T) {
	one, two, three, four := value.Int(1), value.Array(value.Int(2)), value.Ref(3, 0), value.String("4")
	none := sample.Dict("")
	for i, c := range []struct{ o, want api.Object }{
		{none, none}, {sample.Dict("Root", three), sample.Dict("Root", three)}, {sample.Dict("A ID Info Prev Root Size", one, two, three, four, one, two), sample.Dict("ID Info Root", two, three, one)}, {sample.Dict("Info", one), sample.Dict("Info", one)}, {sample.Dict("I ID IDs Inf Infos Roo Roots", one, two, three, four, one, two, three), sample.Dict("ID", two)}, {sample.Dict("id info root", one, two, three), none}, {sample.Dict("A", sample.Dict("ID Info Root", one, one, one)), none}, {sample.Dict("Prev Size", one, two), none},
		{api.Object{Kind: api.KStream, Keys: []string{"ID", "Type", "W"}, Kids: []api.Object{two, four, one}, S: "data"}, sample.Dict("ID", two)}, {api.Object{Kind: api.KStream, S: "data"}, none},
		{value.Array(sample.Dict("ID", one)), none}, {value.Null(), none}, {three, none}, {value.Name("ID"), none}, {api.Object{Kind: 99}, none},
		{sample.Dict("Root A", three, one), none}, {sample.Dict("ID ID", one, one), none}, {sample.Dict("ID Info", one, value.Null()), none}, {sample.Dict("A ID", value.Ref(0, 0), one), none}, {sample.Dict("ID Info", one), none}, {api.Object{Kind: api.KDict, Keys: []string{"ID"}, Kids: []api.Object{one}, S: "x"}, none}, {api.Object{Kind: api.KStream, Keys: []string{"ID", "Length"}, Kids: []api.Object{one, one}}, none}, {sample.Dict("A ID", sample.Nest(one, api.MaxDepth), one), none},
	} {
		was := value.Clone(c.o)
		got := docs.Trailer(c.o)
		if !value.Same(got, c.want) || value.Check(got) != api.OK {
			t.Errorf("Trailer %d (%s) = %s, want %s", i, brief(c.o), brief(got), brief(c.want))
		}
		spoilObject(got)
		if !value.Same(c.o, was) {
			t.Errorf("Trailer %d shares memory", i)
		}
	}
	for _, d := range sample.Docs() {
		if got := docs.Trailer(d.Trailer); !value.Same(got, d.Trailer) {
			t.Errorf("Trailer(%s) = %s", brief(d.Trailer), brief(got))
		}
	}
}
