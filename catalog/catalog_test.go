package catalog_test

import (
	"fmt"
	"math"
	"slices"
	"strings"
	"testing"

	"foliant/api"
	"foliant/catalog"
	"foliant/docs"
	"foliant/pages"
	"foliant/sample"
	"foliant/value"
)

// brief shows the beginning of anything.
func brief(x any) string { return fmt.Sprintf("%.700s", fmt.Sprintf("%q", fmt.Sprint(x))) }

// item returns an item of generation 0.
func item(num int, o api.Object) api.Item { return api.Item{Num: num, Obj: o} }

// ref returns a reference of generation 0.
func ref(num int) api.Object { return sample.Ref(num, 0) }

// isDoc holds a result against what it should be, and its memory against that of the document it comes from.
func isDoc(t *testing.T, what string, from, got api.Doc, e api.Errno, want api.Doc, wantErr api.Errno) {
	t.Helper()
	result := sample.Copy(got)
	if wrong := sample.Wrong(from, got, e, want, wantErr); wrong != "" {
		t.Errorf("%s of %s = %s, want %s: %s", what, brief(from), brief(result), brief(want), wrong)
	}
}

// Promises 34.1 and 34.4.
func TestNew(t *testing.T) {
	for _, n := range []int{0, 1, 2, 3, 100, api.MaxPages} {
		kids := value.Array()
		for i := range n {
			kids.Kids = append(kids.Kids, ref(i+3))
		}
		want := sample.Doc(1,
			item(1, sample.Dict("Pages Type", ref(2), value.Name("Catalog"))),
			item(2, sample.Dict("Count Kids Type", value.Int(int64(n)), kids, value.Name("Pages"))))
		for i := range n {
			box := value.Array(value.Int(0), value.Int(0), value.Int(612), value.Int(792))
			want.Items = append(want.Items, item(i+3, sample.Dict("MediaBox Parent Type", box, ref(2), value.Name("Page"))))
		}
		d, e := catalog.New(n)
		if !docs.Same(d, want) || e != api.OK || docs.Check(d) != api.OK {
			t.Errorf("New(%d) = %s, %d", n, brief(d), e)
		}
		if list, e := pages.List(d); len(list) != n || e != api.OK {
			t.Errorf("New(%d) has %d pages, %d", n, len(list), e)
		}
		if n > 1 {
			sample.Spoil(d.Items[2].Obj)
			sample.Spoil(d.Items[0].Obj)
			if !value.Same(d.Items[3].Obj, want.Items[3].Obj) || !value.Same(d.Trailer, want.Trailer) {
				t.Errorf("the items of New(%d) share memory", n)
			}
		}
	}
	for _, n := range []int{math.MinInt, -1, api.MaxPages + 1, math.MaxInt} {
		if d, e := catalog.New(n); len(d.Items) > 0 || d.Trailer.Kind != 0 || e != api.ErrRange {
			t.Errorf("New(%d) = %s, %d", n, brief(d), e)
		}
	}
}

// Promise 34.2.
func TestRoot(t *testing.T) {
	for _, d := range slices.Concat(sample.Docs(), sample.Webs(), sample.Trees()) {
		was := sample.Copy(d)
		root, _ := value.Get(d.Trailer, "Root")
		i, e := catalog.Root(d)
		if int64(i.Num) != root.N || i.Gen != root.G || !value.Same(i.Obj, docs.Follow(d, root)) || e != api.OK {
			t.Errorf("Root(%s) = %s, %d", brief(d), brief(i), e)
		}
		sample.Spoil(i.Obj)
		if !docs.Same(d, was) {
			t.Errorf("Root(%s) shares memory", brief(was))
		}
	}
	for _, b := range sample.BadDocs() {
		if i, e := catalog.Root(b.Is); i.Num != 0 || i.Gen != 0 || !value.Same(i.Obj, api.Object{}) || e != b.Err {
			t.Errorf("Root(%s) = %s, %d, want %d", brief(b.Is), brief(i), e, b.Err)
		}
	}
}

// withRoot returns a document with the value o for a key of the catalog.
func withRoot(d api.Doc, key string, o api.Object) api.Doc {
	d = sample.Copy(d)
	root, _ := value.Get(d.Trailer, "Root")
	for i := range d.Items {
		if int64(d.Items[i].Num) == root.N {
			d.Items[i].Obj, _ = value.Set(d.Items[i].Obj, key, o)
		}
	}
	return d
}

// longKey is a key of the greatest length.
var longKey = strings.Repeat("k", api.MaxName)

// Promises 34.2 and 34.5.
func TestSetRoot(t *testing.T) {
	values := []api.Object{value.Null(), value.Int(5), ref(1), ref(99), sample.Dict("A", ref(2)), value.String(""), sample.Nest(ref(1), api.MaxDepth-2)}
	for n, d := range slices.Concat(sample.Docs(), sample.Trees()) {
		if len(d.Items) > 1000 && n > 20 {
			continue
		}
		for k, key := range []string{"A", "Pages", "Type", "\x01", longKey} {
			v := values[(n+k)%len(values)]
			got, e := catalog.SetRoot(d, key, v)
			if i, _ := catalog.Root(got); e == api.OK {
				if back, ok := value.Get(i.Obj, key); ok != (v.Kind != api.KNull) || !value.Same(back, v) {
					t.Errorf("the catalog has %s, %v after SetRoot of %s", brief(back), ok, brief(v))
				}
			}
			isDoc(t, "SetRoot", d, got, e, withRoot(d, key, v), api.OK)
		}
	}
	v := sample.Dict("A", value.Array(value.Int(1)))
	d, _ := catalog.New(1)
	got, _ := catalog.SetRoot(d, "A", v)
	sample.SpoilDoc(got)
	if !value.Same(v, sample.Dict("A", value.Array(value.Int(1)))) {
		t.Error("SetRoot shares memory with the value")
	}
}

// Promise 34.2: the errors, in their order.
func TestSetRootErrors(t *testing.T) {
	d, _ := catalog.New(1)
	full := sample.Doc(1, item(1, sample.Broad(api.MaxKids)))
	stream := api.Object{Kind: api.KStream, S: "s"}
	for _, c := range []struct {
		d    api.Doc
		key  string
		v    api.Object
		want api.Errno
	}{
		{d, "", value.Int(1), api.ErrForm}, {d, "", value.Null(), api.ErrForm}, {d, "\x00", value.Int(1), api.ErrForm}, {d, "A\x00B", api.Object{Kind: 99}, api.ErrForm},
		{d, longKey + "k", value.Int(1), api.ErrLong}, {d, longKey + "k", value.Null(), api.ErrLong}, {d, longKey + "k", api.Object{Kind: 99}, api.ErrLong}, {d, longKey + "\x00", value.Int(1), api.ErrForm},
		{d, "A", stream, api.ErrKind}, {d, "A", sample.Nest(ref(1), api.MaxDepth-1), api.ErrDeep},
		{full, "A", value.Int(1), api.ErrMany}, {full, "A", api.Object{Kind: api.KRef}, api.ErrRange}, {full, "", value.Int(1), api.ErrForm},
	} {
		got, e := catalog.SetRoot(c.d, c.key, c.v)
		isDoc(t, "SetRoot", c.d, got, e, api.Doc{}, c.want)
	}
	for _, b := range sample.BadObjects() {
		got, e := catalog.SetRoot(d, "A", b.Is)
		isDoc(t, "SetRoot", d, got, e, api.Doc{}, b.Err)
	}
	for _, b := range sample.BadDocs() {
		for _, key := range []string{"A", "", longKey + "k"} {
			for _, v := range []api.Object{value.Int(1), {Kind: 99}} {
				got, e := catalog.SetRoot(b.Is, key, v)
				isDoc(t, "SetRoot", b.Is, got, e, api.Doc{}, b.Err)
			}
		}
	}
	for _, key := range []string{"A", full.Items[0].Obj.Keys[0]} {
		got, e := catalog.SetRoot(full, key, value.Null())
		isDoc(t, "SetRoot", full, got, e, withRoot(full, key, value.Null()), api.OK)
	}
	got, e := catalog.SetRoot(full, full.Items[0].Obj.Keys[7], ref(1))
	isDoc(t, "SetRoot", full, got, e, withRoot(full, full.Items[0].Obj.Keys[7], ref(1)), api.OK)
}
