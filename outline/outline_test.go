package outline_test

import (
	"fmt"
	"slices"
	"strings"
	"testing"
	"time"

	"foliant/api"
	"foliant/catalog"
	"foliant/docs"
	"foliant/outline"
	"foliant/sample"
	"foliant/value"
)

// brief shows the beginning of anything.
func brief(x any) string { return fmt.Sprintf("%.700s", fmt.Sprintf("%q", fmt.Sprint(x))) }

// item returns an item of generation 0.
func item(num int, o api.Object) api.Item { return api.Item{Num: num, Obj: o} }

// ref returns a reference of generation 0.
func ref(num int) api.Object { return sample.Ref(num, 0) }

func sameMark(a, b api.Mark) bool {
	return a.Title == b.Title && a.To == b.To && a.Has == b.Has && a.Open == b.Open && sameMarks(a.Kids, b.Kids)
}

func sameMarks(a, b []api.Mark) bool { return slices.EqualFunc(a, b, sameMark) }

// fresh returns a document of two pages, 3 and 4, with an outline, unless it is null, and more items from number 5 on.
func fresh(o api.Object, list ...api.Object) api.Doc {
	d, _ := catalog.New(2)
	d, _ = catalog.SetRoot(d, "Outlines", o)
	for i, o := range list {
		d.Items = append(d.Items, item(5+i, o))
	}
	return d
}

// entries are those of a dictionary.
type entries map[string]api.Object

// mark returns the dictionary of a mark with the title t and more entries.
func mark(more entries) api.Object {
	all := entries{"Title": value.String("t")}
	for key, o := range more {
		all[key] = o
	}
	return sample.Entries(all)
}

// named returns a mark with a title.
func named(title string, kids ...api.Mark) api.Mark { return api.Mark{Title: title, Kids: kids} }

// many returns so many marks.
func many(size int) []api.Mark { return make([]api.Mark, size) }

// nested returns a mark inside which lie so many others, each in the one before.
func nested(levels int) api.Mark {
	m := api.Mark{}
	for range levels {
		m = api.Mark{Kids: []api.Mark{m}}
	}
	return m
}

// Promises 40.3 and 40.4, by the example of the chapter.
func TestExample(t *testing.T) {
	l := []api.Mark{{Title: "a", Open: true, Kids: []api.Mark{named("b")}}, named("c")}
	if lines := outline.Lines(l); !slices.Equal(lines, []string{"a", "  b", "c"}) {
		t.Errorf("Lines = %q", lines)
	}
	d, e := outline.Set(fresh(value.Null()), l)
	want := fresh(ref(5),
		sample.Dict("Count First Last Type", value.Int(3), ref(6), ref(8), value.Name("Outlines")),
		sample.Dict("Count First Last Next Parent Title", value.Int(1), ref(7), ref(7), ref(8), ref(5), value.String("a")),
		sample.Dict("Parent Title", ref(6), value.String("b")),
		sample.Dict("Parent Prev Title", ref(5), ref(6), value.String("c")))
	if !docs.Same(d, want) || e != api.OK {
		t.Errorf("Set = %s, %d, want %s", brief(d), e, brief(want))
	}
}

// Promise 40.1: outlines of all forms.
func TestRead(t *testing.T) {
	first := sample.Dict("First", ref(5))
	fit := sample.Array(ref(4), value.Name("Fit"))
	stream := api.Object{Kind: api.KStream, Keys: []string{"Title"}, Kids: []api.Object{value.String("t")}}
	at := api.Mark{Title: "t", To: api.Dest{Page: 1, Kind: api.DestFit}, Has: true}
	long := strings.Repeat("t", api.MaxText)
	one := []api.Mark{named("t")}
	open := []api.Mark{{Title: "t", Open: true, Kids: one}}
	for i, c := range []struct {
		d    api.Doc
		want []api.Mark
		err  api.Errno
	}{
		{fresh(value.Null()), nil, api.OK}, {fresh(ref(99)), nil, api.OK}, {fresh(ref(5), value.Null()), nil, api.OK}, {fresh(sample.Dict("")), nil, api.OK}, {fresh(ref(5), sample.Dict("Count Last Next Title", value.Int(1), ref(6), ref(6), ref(6)), mark(nil)), nil, api.OK},
		{fresh(first, mark(nil)), one, api.OK}, {fresh(ref(6), mark(nil), first), one, api.OK}, {fresh(first, mark(entries{"Next": ref(6)}), mark(entries{"Prev": ref(7), "Parent": value.Int(7), "Last": ref(5)})), append(one, one...), api.OK}, {fresh(first, sample.Dict("Title", ref(6)), value.String(long)), []api.Mark{named(long)}, api.OK}, {fresh(first, sample.Dict("Title", value.String(""))), []api.Mark{named("")}, api.OK},
		{fresh(sample.Dict("First", sample.Ref(1, 0)), mark(nil)), nil, api.ErrKind}, {fresh(sample.Dict("First", sample.Ref(5, 1)), mark(nil)), nil, api.ErrKind}, {fresh(sample.Dict("First", mark(nil))), nil, api.ErrKind}, {fresh(first, stream), nil, api.ErrKind}, {fresh(first), nil, api.ErrKind}, {fresh(first, value.Null()), nil, api.ErrKind}, {fresh(first, sample.Array(ref(6)), mark(nil)), nil, api.ErrKind}, {fresh(first, mark(entries{"Next": mark(nil)})), nil, api.ErrKind}, {fresh(first, mark(entries{"First": ref(99)})), nil, api.ErrKind}, {fresh(first, mark(entries{"Next": value.Name("t")})), nil, api.ErrKind},
		{fresh(value.Int(7)), nil, api.ErrKind}, {fresh(sample.Array()), nil, api.ErrKind}, {fresh(ref(5), stream), nil, api.ErrKind},
		{fresh(first, sample.Dict("")), nil, api.ErrKind}, {fresh(first, sample.Dict("Title", value.Name("t"))), nil, api.ErrKind}, {fresh(first, sample.Dict("Title", ref(99))), nil, api.ErrKind}, {fresh(first, sample.Dict("Title", sample.Array())), nil, api.ErrKind}, {fresh(first, sample.Dict("Title", value.String(long+"t"))), nil, api.ErrLong}, {fresh(first, sample.Dict("Title", ref(6)), value.String(long+"t")), nil, api.ErrLong},
		{fresh(first, mark(entries{"Next": ref(5)})), nil, api.ErrLoop}, {fresh(first, mark(entries{"First": ref(5)})), nil, api.ErrLoop}, {fresh(first, mark(entries{"First": ref(6), "Next": ref(6)}), mark(nil)), nil, api.ErrLoop}, {fresh(first, mark(entries{"First": ref(6)}), mark(entries{"Next": ref(5)})), nil, api.ErrLoop}, {fresh(ref(5), mark(entries{"First": ref(5)})), nil, api.ErrLoop}, {fresh(ref(5), mark(entries{"First": ref(6)}), mark(entries{"Next": ref(5)})), nil, api.ErrLoop},
		{fresh(first, mark(entries{"First": ref(5), "Next": value.Int(7)})), nil, api.ErrLoop}, {fresh(first, mark(entries{"First": value.Int(7), "Next": ref(5)})), nil, api.ErrKind},
		{fresh(first, mark(entries{"Dest": fit})), []api.Mark{at}, api.OK}, {fresh(first, mark(entries{"Dest": ref(6)}), sample.Dict("D", fit)), []api.Mark{at}, api.OK}, {fresh(first, mark(entries{"Dest": sample.Array(ref(5), value.Name("Fit"))})), one, api.OK}, {fresh(first, mark(entries{"Dest": ref(99)})), one, api.OK}, {fresh(first, mark(entries{"Dest": value.Name("t")})), one, api.OK}, {fresh(first, mark(entries{"Dest": value.Int(7)})), one, api.OK},
		{fresh(first, mark(entries{"First": ref(6), "Count": value.Int(1)}), mark(nil)), open, api.OK}, {fresh(first, mark(entries{"First": ref(6), "Count": ref(7)}), mark(nil), value.Int(9)), open, api.OK}, {fresh(first, mark(entries{"First": ref(6), "Count": value.Int(api.MaxInt)}), mark(entries{"Count": value.Int(5)})), open, api.OK},
		{fresh(first, mark(entries{"First": ref(6)}), mark(nil)), []api.Mark{named("t", one...)}, api.OK}, {fresh(first, mark(entries{"First": ref(6), "Count": value.Int(0)}), mark(nil)), []api.Mark{named("t", one...)}, api.OK}, {fresh(first, mark(entries{"First": ref(6), "Count": value.Int(-1)}), mark(nil)), []api.Mark{named("t", one...)}, api.OK}, {fresh(first, mark(entries{"First": ref(6), "Count": value.Real(10000)}), mark(nil)), []api.Mark{named("t", one...)}, api.OK}, {fresh(first, mark(entries{"First": ref(6), "Count": ref(99)}), mark(nil)), []api.Mark{named("t", one...)}, api.OK}, {fresh(first, mark(entries{"Count": value.Int(1)})), one, api.OK},
	} {
		was := sample.Copy(c.d)
		if l, e := outline.Read(c.d); !sameMarks(l, c.want) || e != c.err || !docs.Same(c.d, was) {
			t.Errorf("Read %d = %s, %d, want %s, %d", i, brief(l), e, brief(c.want), c.err)
		}
	}
	d := fresh(first, mark(entries{"Dest": fit}))
	d.Items[3].Obj = value.Drop(d.Items[3].Obj, "MediaBox")
	if l, e := outline.Read(d); !sameMarks(l, one) || e != api.OK {
		t.Errorf("Read without a box = %v, %d", l, e)
	}
}

// row returns the document of an outline with so many marks, inside each of which lie as many others as levels says, the last of them with more entries.
func row(size, levels int, more entries) api.Doc {
	d := fresh(sample.Dict("First", ref(5)))
	num := 5
	for n := range size {
		for level := range levels + 1 {
			all := entries{}
			if level < levels {
				all["First"] = ref(num + 1)
			}
			if level == 0 && n+1 < size {
				all["Next"] = ref(num + levels + 1)
			}
			d.Items = append(d.Items, item(num, mark(all)))
			num++
		}
	}
	last := &d.Items[len(d.Items)-1]
	for key, o := range more {
		last.Obj, _ = value.Set(last.Obj, key, o)
	}
	return d
}

// with returns a document with an object under a number.
func with(d api.Doc, num int, o api.Object) api.Doc {
	d, _ = docs.Put(d, item(num, o))
	return d
}

// Promise 40.1: how many marks there may be, and how deep they may lie.
func TestReadLimits(t *testing.T) {
	const most, deepest = api.MaxTree, api.MaxDepth - 1
	bad, far := sample.Dict(""), api.MaxNum
	for i, c := range []struct {
		d    api.Doc
		want api.Errno
	}{
		{row(most, 0, nil), api.OK}, {row(most+1, 0, nil), api.ErrMany}, {row(most, 0, entries{"First": ref(4)}), api.ErrMany}, {row(most, 0, entries{"First": ref(5)}), api.ErrLoop}, {row(most, 0, entries{"Next": ref(99)}), api.ErrLoop}, {row(most, 0, entries{"Next": ref(far)}), api.ErrKind},
		{row(1, deepest, nil), api.OK}, {row(1, deepest+1, nil), api.ErrDeep}, {row(3, deepest, nil), api.OK}, {row(3, deepest, entries{"Next": ref(far)}), api.ErrKind}, {with(row(3, deepest, entries{"Next": ref(far)}), far, mark(nil)), api.OK}, {with(row(3, deepest, entries{"First": ref(far)}), far, mark(nil)), api.ErrDeep},
		{with(row(3, deepest, entries{"First": ref(far)}), far, bad), api.ErrDeep}, {with(row(3, deepest-1, entries{"First": ref(far)}), far, bad), api.ErrKind}, {with(row(most, 0, entries{"First": ref(far)}), far, bad), api.ErrMany}, {with(row(most-1, 0, entries{"First": ref(far)}), far, bad), api.ErrKind},
		{row(2, deepest, entries{"First": ref(5)}), api.ErrLoop}, {row(2, deepest, entries{"First": value.Int(7)}), api.ErrKind},
		{with(row(most/16, 15, entries{"First": ref(far)}), far, mark(nil)), api.ErrMany}, {row(most/16, 15, nil), api.OK},
	} {
		if l, e := outline.Read(c.d); e != c.want || (e == api.OK) != (len(l) > 0) {
			t.Errorf("Read %d has %d marks, %d, want %d", i, len(l), e, c.want)
		}
	}
	// As many as there may be, the last of them as deep as it may lie: one more below it is both too many and too deep.
	d := row(most-api.MaxDepth, 0, entries{"Next": ref(5000)})
	for level := range api.MaxDepth {
		d = with(d, 5000+level, mark(entries{"First": ref(5001 + level)}))
	}
	if _, e := outline.Read(with(d, 5000+api.MaxDepth, mark(nil))); e != api.ErrMany {
		t.Errorf("Read of marks too many and too deep = %d", e)
	}
}

// Promises 40.1 to 40.3: a document that is invalid is reported first.
func TestInvalid(t *testing.T) {
	for i, b := range sample.BadDocs() {
		for _, l := range [][]api.Mark{nil, many(1), {{Open: true}}, many(api.MaxTree + 1)} {
			if e := outline.Check(b.Is, l); e != b.Err {
				t.Errorf("Check of document %d = %d, want %d", i, e, b.Err)
			}
			if d, e := outline.Set(b.Is, l); e != b.Err || len(d.Items) > 0 || d.Trailer.Kind != 0 {
				t.Errorf("Set in document %d = %s, %d, want %d", i, brief(d), e, b.Err)
			}
		}
		if l, e := outline.Read(b.Is); e != b.Err || len(l) > 0 {
			t.Errorf("Read of document %d = %v, %d, want %d", i, l, e, b.Err)
		}
	}
}

// Promise 40.2: the errors, in their order.
func TestCheck(t *testing.T) {
	long := strings.Repeat("t", api.MaxText)
	fit := api.Dest{Kind: api.DestFit}
	open, far, aimless := api.Mark{Open: true}, api.Mark{Has: true, To: api.Dest{Page: 2, Kind: api.DestFit}}, api.Mark{To: fit}
	inside := func(m api.Mark, levels int) api.Mark {
		for range levels {
			m = api.Mark{Kids: []api.Mark{{}, m}}
		}
		return m
	}
	for i, c := range []struct {
		l    []api.Mark
		want api.Errno
	}{
		{nil, api.OK}, {many(1), api.OK}, {many(api.MaxTree), api.OK}, {many(api.MaxTree + 1), api.ErrMany}, {append(many(api.MaxTree), open), api.ErrMany}, {append(many(api.MaxTree-1), open), api.ErrArg}, {append([]api.Mark{open}, many(api.MaxTree)...), api.ErrArg}, {append(many(api.MaxTree-1), nested(1)), api.ErrMany}, {append(many(api.MaxTree-2), nested(1)), api.OK}, {append([]api.Mark{nested(1)}, many(api.MaxTree-1)...), api.ErrMany},
		{[]api.Mark{nested(api.MaxDepth - 1)}, api.OK}, {[]api.Mark{nested(api.MaxDepth)}, api.ErrDeep}, {[]api.Mark{{}, nested(api.MaxDepth), open}, api.ErrDeep}, {[]api.Mark{inside(open, api.MaxDepth)}, api.ErrDeep}, {[]api.Mark{inside(open, api.MaxDepth-1)}, api.ErrArg}, {append(many(api.MaxTree-api.MaxDepth), nested(api.MaxDepth)), api.ErrMany}, {append(many(api.MaxTree-api.MaxDepth-1), nested(api.MaxDepth)), api.ErrDeep},
		{[]api.Mark{named(long)}, api.OK}, {[]api.Mark{named(long + "t")}, api.ErrLong}, {[]api.Mark{{Title: long + "t", Open: true}}, api.ErrLong}, {[]api.Mark{named("", named(long+"t")), open}, api.ErrLong}, {[]api.Mark{open, named(long + "t")}, api.ErrArg},
		{[]api.Mark{{Has: true, To: fit}}, api.OK}, {[]api.Mark{aimless}, api.ErrArg}, {[]api.Mark{{To: api.Dest{Page: 1}}}, api.ErrArg}, {[]api.Mark{{To: api.Dest{W: 1}}}, api.ErrArg}, {[]api.Mark{open}, api.ErrArg}, {[]api.Mark{{Open: true, Kids: []api.Mark{}}}, api.ErrArg}, {[]api.Mark{{Open: true, Kids: many(1)}}, api.OK}, {[]api.Mark{{Has: true, Open: true}}, api.ErrArg},
		{[]api.Mark{{Has: true}}, api.ErrKind}, {[]api.Mark{far}, api.ErrRange}, {[]api.Mark{{Has: true, To: api.Dest{Kind: api.DestFit, X: 1}}}, api.ErrArg}, {[]api.Mark{{Has: true, To: api.Dest{Kind: api.DestFitV, X: api.MaxFix + 1}}}, api.ErrRange}, {[]api.Mark{{}, named("", far), open}, api.ErrRange}, {[]api.Mark{{Has: true, Kids: []api.Mark{open}}}, api.ErrKind},
	} {
		if e := outline.Check(fresh(value.Null()), c.l); e != c.want {
			t.Errorf("Check %d = %d, want %d", i, e, c.want)
		}
		d, e := outline.Set(fresh(value.Int(7)), c.l)
		if e != c.want || (e == api.OK) != (len(d.Items) > 0) || e != api.OK && d.Trailer.Kind != 0 {
			t.Errorf("Set %d = %s, %d, want %d", i, brief(d), e, c.want)
		}
		if l, e := outline.Read(d); c.want == api.OK && (!sameMarks(l, c.l) || e != api.OK) {
			t.Errorf("Read after Set %d = %s, %d, want %s", i, brief(l), e, brief(c.l))
		}
	}
	d := fresh(value.Null())
	d.Items[3].Obj = value.Drop(d.Items[3].Obj, "MediaBox")
	for _, m := range []api.Mark{far, {Has: true, To: fit}} {
		if e := outline.Check(d, []api.Mark{m}); e != api.ErrPage {
			t.Errorf("Check without a box = %d", e)
		}
	}
	if e := outline.Check(d, many(1)); e != api.OK {
		t.Errorf("Check of a mark without a destination = %d", e)
	}
}

// Promise 40.3: outlines of many shapes, and of none.
func TestSet(t *testing.T) {
	fit := sample.Array(ref(4), value.Name("FitV"), value.Real(5000))
	to := api.Dest{Page: 1, Kind: api.DestFitV, X: 5000}
	l := []api.Mark{{Title: "a", Has: true, To: to, Kids: []api.Mark{named("b", named("c")), {Title: "d", Open: true, Kids: []api.Mark{named("e"), named("f", named("g"))}}}}, named("h"), {Title: "i", Open: true, Kids: many(2)}}
	was := append([]api.Mark{}, l...)
	dict := func(keys string, kids ...api.Object) api.Object { return sample.Dict(keys, kids...) }
	s, n := value.String, value.Int
	d := fresh(ref(3), mark(nil))
	want := fresh(ref(6), mark(nil),
		dict("Count First Last Type", n(5), ref(7), ref(15), value.Name("Outlines")),
		dict("Count Dest First Last Next Parent Title", n(-4), fit, ref(8), ref(10), ref(14), ref(6), s("a")),
		dict("Count First Last Next Parent Title", n(-1), ref(9), ref(9), ref(10), ref(7), s("b")),
		dict("Parent Title", ref(8), s("c")),
		dict("Count First Last Parent Prev Title", n(2), ref(11), ref(12), ref(7), ref(8), s("d")),
		dict("Next Parent Title", ref(12), ref(10), s("e")),
		dict("Count First Last Parent Prev Title", n(-1), ref(13), ref(13), ref(10), ref(11), s("f")),
		dict("Parent Title", ref(12), s("g")),
		dict("Next Parent Prev Title", ref(15), ref(6), ref(7), s("h")),
		dict("Count First Last Parent Prev Title", n(2), ref(16), ref(17), ref(6), ref(14), s("i")),
		dict("Next Parent Title", ref(17), ref(15), s("")),
		dict("Parent Prev Title", ref(15), ref(16), s("")))
	got, e := outline.Set(d, l)
	shown := brief(got)
	if back, e := outline.Read(got); !sameMarks(back, l) || e != api.OK {
		t.Errorf("Read after Set = %s, %d", brief(back), e)
	}
	if wrong := sample.Wrong(d, got, e, want, api.OK); wrong != "" || !sameMarks(l, was) {
		t.Errorf("Set = %s, want %s: %s", shown, brief(want), wrong)
	}
	for _, o := range []api.Object{value.Null(), ref(5), sample.Dict("First", ref(5)), value.Int(7)} {
		got, e := outline.Set(fresh(o, mark(nil)), nil)
		if wrong := sample.Wrong(fresh(o, mark(nil)), got, e, fresh(value.Null(), mark(nil)), api.OK); wrong != "" {
			t.Errorf("Set without marks for %v is wrong: %s", o, wrong)
		}
	}
	same := fresh(value.Null(), mark(nil))
	if got, e := outline.Set(same, []api.Mark{}); sample.Wrong(same, got, e, sample.Copy(same), api.OK) != "" {
		t.Errorf("Set without marks is wrong or shares memory")
	}
}

// Promise 40.3: when there is no room.
func TestSetFull(t *testing.T) {
	room := func(n int) api.Doc { return with(fresh(value.Null()), api.MaxNum-n, value.Null()) }
	broad := sample.Doc(1, item(1, sample.Broad(api.MaxKids)))
	for i, c := range []struct {
		d    api.Doc
		l    []api.Mark
		want api.Errno
	}{
		{room(0), nil, api.OK}, {room(0), many(1), api.ErrFull}, {room(1), many(1), api.ErrFull}, {room(2), many(1), api.OK}, {room(2), many(2), api.ErrFull}, {room(3), many(2), api.OK}, {room(3), []api.Mark{nested(2)}, api.ErrFull}, {room(4), []api.Mark{nested(2)}, api.OK}, {room(1), many(api.MaxTree), api.ErrFull}, {room(api.MaxTree + 1), many(api.MaxTree), api.OK}, {room(0), []api.Mark{{Open: true}}, api.ErrArg}, {room(0), many(api.MaxTree + 1), api.ErrMany},
		{broad, many(1), api.ErrMany}, {broad, nil, api.OK},
	} {
		d, e := outline.Set(c.d, c.l)
		if e != c.want || (e == api.OK) != (len(d.Items) > 0) || e != api.OK && d.Trailer.Kind != 0 {
			t.Errorf("Set %d = %s, %d, want %d", i, brief(d), e, c.want)
		}
	}
}

// Promise 40.4.
func TestCountAndLines(t *testing.T) {
	for i, c := range []struct {
		l    []api.Mark
		want []string
	}{
		{nil, nil}, {[]api.Mark{}, nil}, {many(3), []string{"", "", ""}}, {[]api.Mark{named("a")}, []string{"a"}},
		{[]api.Mark{named("a", named("b", named("c")), named(" d")), named("e\n", named(""))}, []string{"a", "  b", "    c", "   d", "e\n", "  "}},
		{[]api.Mark{{Title: "a", Open: true, Has: true, Kids: []api.Mark{{To: api.Dest{Page: 7}}}}}, []string{"a", "  "}},
	} {
		if n := outline.Count(c.l); n != len(c.want) {
			t.Errorf("Count %d = %d, want %d", i, n, len(c.want))
		}
		if lines := outline.Lines(c.l); !slices.Equal(lines, c.want) {
			t.Errorf("Lines %d = %q, want %q", i, lines, c.want)
		}
	}
	deep := []api.Mark{nested(2000)}
	if lines := outline.Lines(deep); outline.Count(deep) != 2001 || len(lines) != 2001 || lines[2000] != strings.Repeat("  ", 2000) {
		t.Errorf("the lines of marks that are nested are %d", len(lines))
	}
	if n := outline.Count(many(100000)); n != 100000 {
		t.Errorf("Count of many = %d", n)
	}
}

// An outline as long as may be, whose marks have destinations, in a document of many pages.
func TestOutlineIsFast(t *testing.T) {
	d, _ := catalog.New(api.MaxPages)
	l := many(api.MaxTree)
	for i := range l {
		l[i].Has, l[i].To = true, api.Dest{Page: i % api.MaxPages, Kind: api.DestFitR, W: int64(i)}
	}
	start := time.Now()
	d, e := outline.Set(d, l)
	back, readErr := outline.Read(d)
	if took := time.Since(start); !sameMarks(back, l) || e != api.OK || readErr != api.OK || took > 5*time.Second {
		t.Errorf("it took %v, %d, %d", took, e, readErr)
	}
}
