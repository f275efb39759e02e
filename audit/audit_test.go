package audit_test

import (
	"fmt"
	"math"
	"slices"
	"strconv"
	"testing"
	"time"

	"foliant/api"
	"foliant/audit"
	"foliant/catalog"
	"foliant/clean"
	"foliant/docs"
	"foliant/draw"
	"foliant/field"
	"foliant/filter"
	"foliant/graph"
	"foliant/load"
	"foliant/names"
	"foliant/pack"
	"foliant/pages"
	"foliant/sample"
	"foliant/value"
	"foliant/whole"
)

// brief shows the beginning of anything.
func brief(x any) string { return fmt.Sprintf("%.700s", fmt.Sprintf("%q", fmt.Sprint(x))) }

// ref returns a reference of generation 0.
func ref(num int) api.Object { return sample.Ref(num, 0) }

// name returns a name.
func name(s string) api.Object { return value.Name(s) }

// stream returns a stream with a filter, or with none.
func stream(coder, data string) api.Object {
	o := sample.Dict("")
	if coder != "" {
		o = sample.Dict("Filter", name(coder))
	}
	o.Kind, o.S = api.KStream, data
	return o
}

// with returns d with another value for a key of an item.
func with(d api.Doc, num int, key string, o api.Object) api.Doc {
	i, _ := docs.Get(d, num)
	var e api.Errno
	if i.Obj, e = value.Set(i.Obj, key, o); e != api.OK {
		panic(e)
	}
	if d, e = docs.Put(d, i); e != api.OK {
		panic(e)
	}
	return d
}

// holding returns a document of two pages, 3 and 4, whose catalog refers to more items from number 5 on.
func holding(list ...api.Object) api.Doc {
	d, _ := catalog.New(2)
	held := sample.Array()
	for n, o := range list {
		held.Kids = append(held.Kids, ref(5+n))
		d.Items = append(d.Items, api.Item{Num: 5 + n, Obj: o})
	}
	return with(d, 1, "Held", held)
}

// finding returns a finding.
func finding(kind, num int, e api.Errno) api.Finding {
	return api.Finding{Kind: kind, Num: num, Err: e}
}

// Promise 54.1: findings of each kind, and their order.
func TestDoc(t *testing.T) {
	tree := func(o api.Object) api.Object { return sample.Dict("Dests", o) }
	broken := with(holding(stream("AHx", "x"), sample.Array(ref(77), ref(66))), 2, "Kids", name("Kids"))
	broken = with(broken, 1, "Names", tree(name("x")))
	broken = with(broken, 1, "AcroForm", name("x"))
	broken = with(broken, 3, "Contents", ref(5))
	most := with(holding(stream("AHx", "x"), sample.Array(ref(77), ref(66)), stream("", "Q"), stream("None", "")), 1, "Names", tree(sample.Dict("")))
	most = with(with(with(most, 1, "AcroForm", sample.Dict("Fields", name("x"))), 3, "Contents", ref(7)), 4, "Contents", ref(5))
	most.Items = append(most.Items, api.Item{Num: 100, Obj: stream("Fl", "x")}, api.Item{Num: 200, Obj: sample.Array(ref(9), ref(66))})
	gen := holding(sample.Array(sample.Ref(3, 1), ref(3)))
	gen.Trailer = sample.Dict("ID Info Root", sample.Array(ref(50)), ref(40), ref(1))
	for i, c := range []struct {
		d     api.Doc
		want  []api.Finding
		sound bool
	}{
		{holding(), nil, true},
		{holding(stream("", "x"), stream("AHx", "00>")), nil, true},
		// Dangling references, whose generation counts too.
		{holding(sample.Array(ref(9), ref(7), ref(9))), []api.Finding{finding(api.FindRef, 7, api.ErrNone), finding(api.FindRef, 9, api.ErrNone)}, false}, {gen, []api.Finding{finding(api.FindRef, 3, api.ErrNone), finding(api.FindRef, 40, api.ErrNone), finding(api.FindRef, 50, api.ErrNone)}, false},
		// Items that can't be reached, which alone leave a document sound.
		{with(holding(value.Int(1), ref99()), 1, "Held", value.Null()), []api.Finding{finding(api.FindRef, 99, api.ErrNone), finding(api.FindLost, 5, api.ErrNone), finding(api.FindLost, 6, api.ErrNone)}, false}, {with(holding(value.Int(1), value.Null()), 1, "Held", value.Null()), []api.Finding{finding(api.FindLost, 5, api.ErrNone), finding(api.FindLost, 6, api.ErrNone)}, true},
		// Page trees, and pages.
		{with(holding(), 2, "Kids", value.Null()), []api.Finding{finding(api.FindLost, 3, api.ErrNone), finding(api.FindLost, 4, api.ErrNone), finding(api.FindPage, 0, api.ErrPage)}, false}, {with(holding(), 2, "Kids", sample.Array(ref(4), ref(3), ref(4))), []api.Finding{finding(api.FindPage, 0, api.ErrLoop)}, false}, {with(holding(), 4, "MediaBox", value.Null()), []api.Finding{finding(api.FindPage, 0, api.ErrPage)}, false},
		// A document with pages of which nothing can be shown, and one without pages.
		{with(with(holding(stream("", "Q"), stream("", "x")), 3, "Contents", ref(6)), 4, "Contents", ref(5)), []api.Finding{finding(api.FindOps, 3, api.ErrOp), finding(api.FindOps, 4, api.ErrState)}, false}, {with(holding(stream("", "BT")), 4, "Contents", ref(5)), []api.Finding{finding(api.FindOps, 4, api.ErrState)}, false}, {with(holding(), 3, "Contents", name("x")), []api.Finding{finding(api.FindOps, 3, api.ErrPage)}, false},
		// In the order of the pages, whatever their numbers are.
		{with(with(with(holding(stream("", "Q"), stream("", "x")), 3, "Contents", ref(6)), 4, "Contents", ref(5)), 2, "Kids", sample.Array(ref(4), ref(3))), []api.Finding{finding(api.FindOps, 4, api.ErrState), finding(api.FindOps, 3, api.ErrOp)}, false},
		// Streams, used or not.
		{holding(stream("AHx", "x"), stream("None", ""), stream("Fl", "x")), []api.Finding{finding(api.FindFilter, 5, api.ErrForm), finding(api.FindFilter, 6, api.ErrFilter), finding(api.FindFilter, 7, api.ErrEnd)}, false},
		// Names of destinations, and no other names.
		{with(holding(), 1, "Names", tree(sample.Dict(""))), []api.Finding{finding(api.FindName, 0, api.ErrName)}, false}, {with(holding(), 1, "Names", tree(sample.Dict("Names", sample.Array()))), nil, true}, {with(holding(), 1, "Names", tree(sample.Dict("Names", sample.Array(value.String("b"), ref(1), value.String("a"), ref(1))))), []api.Finding{finding(api.FindName, 0, api.ErrName)}, false}, {with(holding(value.Null()), 1, "Names", tree(ref(5))), nil, true}, {with(holding(), 1, "Names", sample.Dict("Else", name("x"))), nil, true}, {with(holding(), 1, "Names", name("x")), nil, true}, {with(holding(), 1, "Names", tree(name("x"))), []api.Finding{finding(api.FindName, 0, api.ErrName)}, false},
		// Forms.
		{with(holding(), 1, "AcroForm", sample.Dict("")), nil, true}, {with(holding(), 1, "AcroForm", name("x")), []api.Finding{finding(api.FindField, 0, api.ErrField)}, false}, {with(holding(sample.Dict("FT", name("Tx"))), 1, "AcroForm", sample.Dict("Fields", sample.Array(ref(5), ref(5)))), []api.Finding{finding(api.FindField, 0, api.ErrLoop)}, false},
		// All of them together, where contents are looked at only if there are pages.
		{broken, []api.Finding{finding(api.FindRef, 66, api.ErrNone), finding(api.FindRef, 77, api.ErrNone), finding(api.FindLost, 3, api.ErrNone), finding(api.FindLost, 4, api.ErrNone), finding(api.FindPage, 0, api.ErrPage), finding(api.FindFilter, 5, api.ErrForm), finding(api.FindName, 0, api.ErrName), finding(api.FindField, 0, api.ErrField)}, false},
		{most, []api.Finding{finding(api.FindRef, 9, api.ErrNone), finding(api.FindRef, 66, api.ErrNone), finding(api.FindRef, 77, api.ErrNone), finding(api.FindLost, 100, api.ErrNone), finding(api.FindLost, 200, api.ErrNone), finding(api.FindFilter, 5, api.ErrForm), finding(api.FindFilter, 8, api.ErrFilter), finding(api.FindFilter, 100, api.ErrEnd), finding(api.FindName, 0, api.ErrName), finding(api.FindOps, 3, api.ErrState), finding(api.FindOps, 4, api.ErrForm), finding(api.FindField, 0, api.ErrField)}, false},
	} {
		was := sample.Copy(c.d)
		if got := audit.Doc(c.d); !slices.Equal(got, c.want) {
			t.Errorf("Doc %d = %v, want %v", i, got, c.want)
		}
		if got := audit.Sound(c.d); got != c.sound {
			t.Errorf("Sound %d = %v", i, got)
		}
		if !docs.Same(c.d, was) {
			t.Errorf("document %d has changed", i)
		}
	}
}

// ref99 returns an array of a dangling reference.
func ref99() api.Object { return sample.Array(ref(99)) }

// Promise 54.1: documents that are not valid.
func TestBadDocs(t *testing.T) {
	for i, b := range sample.BadDocs() {
		if got := audit.Doc(b.Is); !slices.Equal(got, []api.Finding{{Err: b.Err}}) {
			t.Errorf("Doc of bad document %d = %v, want the error %d", i, got, b.Err)
		}
		if audit.Sound(b.Is) {
			t.Errorf("bad document %d is sound", i)
		}
	}
}

// Promise 54.1: lines.
func TestLine(t *testing.T) {
	for _, c := range []struct {
		f    api.Finding
		want string
	}{
		{finding(api.FindPage, 0, api.ErrPage), "page 0 24"}, {finding(api.FindRef, 7, api.ErrNone), "reference 7 8"}, {finding(api.FindLost, 8191, api.ErrNone), "lost 8191 8"}, {finding(api.FindFilter, 5, api.ErrFilter), "filter 5 15"}, {finding(api.FindName, 0, api.ErrName), "name 0 25"}, {finding(api.FindOps, 3, api.ErrOp), "content 3 28"}, {finding(api.FindField, 0, api.ErrField), "field 0 26"}, {finding(0, 0, api.ErrTrail), "none 0 22"}, {api.Finding{}, "none 0 0"},
		{finding(8, 1, 2), "? 1 2"}, {finding(-1, 1, 2), "? 1 2"}, {finding(math.MaxInt, 0, 0), "? 0 0"}, {finding(math.MinInt, -3, -4), "? -3 -4"}, {finding(1, math.MinInt, math.MinInt), "reference -9223372036854775808 -9223372036854775808"}, {finding(2, math.MaxInt, math.MaxInt), "lost 9223372036854775807 9223372036854775807"},
	} {
		if got := audit.Line(c.f); got != c.want {
			t.Errorf("Line(%v) = %q, want %q", c.f, got, c.want)
		}
	}
}

// model returns the findings by the words of the chapter.
func model(d api.Doc) []api.Finding {
	if e := docs.Check(d); e != api.OK {
		return []api.Finding{{Kind: 0, Num: 0, Err: e}}
	}
	var l []api.Finding
	for _, num := range graph.Dangling(d) {
		l = append(l, api.Finding{Kind: 1, Num: num, Err: 8})
	}
	for _, num := range graph.Lost(d) {
		l = append(l, api.Finding{Kind: 2, Num: num, Err: 8})
	}
	list, treeErr := pages.List(d)
	if treeErr != api.OK {
		l = append(l, api.Finding{Kind: 3, Err: treeErr})
	}
	for _, i := range d.Items {
		if i.Obj.Kind == api.KStream {
			if _, e := filter.Decode(i.Obj); e != api.OK {
				l = append(l, api.Finding{Kind: 4, Num: i.Num, Err: e})
			}
		}
	}
	if o := docs.Path(d, d.Trailer, "Root", "Names", "Dests"); o.Kind != api.KNull {
		if _, e := names.Read(d, o); e != api.OK {
			l = append(l, api.Finding{Kind: 5, Err: e})
		}
	}
	if treeErr == api.OK {
		for n, p := range list {
			if _, e := draw.Page(d, n); e != api.OK {
				l = append(l, api.Finding{Kind: 6, Num: p.Num, Err: e})
			}
		}
	}
	if _, e := field.Read(d); e != api.OK {
		l = append(l, api.Finding{Kind: 7, Err: e})
	}
	return l
}

// Promises 54.1 and 54.2, by the words of the chapter.
func TestByTheWords(t *testing.T) {
	kinds, sound := map[int]int{}, 0
	for n, d := range slices.Concat(sample.Scenes()[:400], sample.Trees()[:200], sample.Looks()[:500], sample.Books(), sample.Webs(), sample.Docs()[:3], sample.Docs()[4:]) {
		was := sample.Copy(d)
		want := model(d)
		got := audit.Doc(d)
		if !slices.Equal(got, want) {
			t.Fatalf("Doc(%s) = %v, want %v", brief(d), got, want)
		}
		only := true
		for _, f := range want {
			kinds[f.Kind]++
			only = only && f.Kind == 2
		}
		if only {
			sound++
		}
		if audit.Sound(d) != only {
			t.Fatalf("Sound(%s) = %v, with the findings %v", brief(d), !only, want)
		}
		if n%5 == 0 {
			follows(t, d, want)
		}
		if !docs.Same(d, was) {
			t.Fatalf("the document has changed: %s", brief(was))
		}
	}
	for kind := range 8 {
		if kind > 0 && kinds[kind] < 40 {
			t.Errorf("the kinds of the findings are %v", kinds)
		}
	}
	if sound < 100 {
		t.Errorf("%d sound documents", sound)
	}
}

// follows checks promise 54.2: what clean leaves can be reached, and what is written and read has the same findings.
func follows(t *testing.T, d api.Doc, want []api.Finding) {
	t.Helper()
	for _, keys := range [][]string{nil, clean.Usual(), {"Kids", "A"}} {
		cleaned, e := clean.Doc(d, keys)
		if e != api.OK || slices.ContainsFunc(audit.Doc(cleaned), func(f api.Finding) bool { return f.Kind == api.FindLost }) {
			t.Errorf("%s, cleaned, has the findings %v, %d", brief(d), audit.Doc(cleaned), e)
		}
	}
	table, e := whole.File(d)
	packed, packErr := pack.File(d, 1)
	for i, file := range []string{table, packed} {
		// One that is too long, or full, can't be written so.
		if []api.Errno{e, packErr}[i] != api.OK {
			continue
		}
		again, report, e := load.Open(file)
		if e != api.OK || report.Repaired || !slices.Equal(audit.Doc(again), want) {
			t.Errorf("%s, written and read, has the findings %v, %d, want %v", brief(d), audit.Doc(again), e, want)
		}
	}
}

// P5: many findings.
func TestTakesNoLonger(t *testing.T) {
	begin := time.Now()
	d, _ := catalog.New(api.MaxPages)
	for i := range api.MaxPages {
		num := len(d.Items) + 1
		d.Items = append(d.Items, api.Item{Num: num, Obj: stream("AHx", strconv.Itoa(i)+"x")})
		at := 2 + i
		d.Items[at].Obj, _ = value.Set(d.Items[at].Obj, "Contents", ref(num))
	}
	for len(d.Items) < api.MaxNum {
		d.Items = append(d.Items, api.Item{Num: len(d.Items) + 1})
	}
	got := audit.Doc(d)
	if want := api.MaxNum - 2 - 2*api.MaxPages + 2*api.MaxPages; len(got) != want || got[want-1] != finding(api.FindOps, 2+api.MaxPages, api.ErrForm) {
		t.Errorf("%d findings, want %d", len(got), want)
	}
	if time.Since(begin) > 10*time.Second {
		t.Errorf("it took %v", time.Since(begin))
	}
}
