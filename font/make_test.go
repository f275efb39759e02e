package font_test

import (
	"slices"
	"strings"
	"testing"

	"foliant/api"
	"foliant/cmap"
	"foliant/docs"
	"foliant/font"
	"foliant/sample"
	"foliant/value"
)

// made makes a font in a document, and tells what is wrong with the result, or "".
func made(d api.Doc, f api.Font) (api.Doc, api.Object, string) {
	was := sample.Copy(d)
	more, o, e := font.Make(d, f)
	if e != api.OK {
		return more, o, "an error"
	}
	items, dropped := docs.Diff(d, more)
	last := more.Items[len(more.Items)-1].Num
	switch {
	case !docs.Same(d, was):
		return more, o, "the document is changed"
	case docs.Check(more) != api.OK:
		return more, o, "the result is not valid"
	case len(items) == 0 || len(items) > 16 || len(dropped) > 0 || len(more.Items) != len(d.Items)+len(items):
		return more, o, "the items are not added"
	case !value.Same(o, value.Ref(last, 0)) || !value.Same(d.Trailer, more.Trailer):
		return more, o, "the reference is wrong"
	}
	for i, item := range items {
		if item.Num != d.Items[len(d.Items)-1].Num+1+i || item.Gen != 0 {
			return more, o, "the numbers are wrong"
		}
	}
	return more, o, ""
}

// Promises 47.4 and 47.5: Read returns what was made.
func TestMake(t *testing.T) {
	for at, d := range []api.Doc{library(), library(simple(nil), value.Int(7)), sample.Docs()[2]} {
		for i, f := range sounds() {
			more, o, wrong := made(d, f)
			if wrong != "" {
				t.Errorf("Make %d in %d: %s", i, at, wrong)
				continue
			}
			back, e := font.Read(more, o)
			if e != api.OK || (len(f.Widths) > 0 || f.First == 0) && !same(back, f) {
				t.Errorf("Make %d in %d is read as %s, %d", i, at, brief(back), e)
			}
			if s := sample.Wrong(d, more, api.OK, sample.Copy(more), api.OK); s != "" {
				t.Errorf("Make %d in %d: %s", i, at, s)
			}
		}
	}
}

// Promises 47.4 and 47.5: each part of a font alone.
func TestMakeParts(t *testing.T) {
	var list []api.Font
	for _, first := range []int{0, 1, 255} {
		for _, missing := range []int64{0, 1, 1000, 100000} {
			list = append(list, api.Font{Name: "F", First: first, Widths: []int64{5}, Missing: missing}, api.Font{Name: "F", Wide: true, First: first, Widths: []int64{5}, Missing: missing})
		}
	}
	for code := range 256 {
		l := font.Usual()
		l[code] = "x"
		list = append(list, api.Font{Name: "F", Names: l}, api.Font{Name: "F", Wide: true, First: code * 257, Widths: []int64{1}, Maps: []api.Map{{Code: code * 257, S: "é"}}})
	}
	odd := font.Usual()
	for code := range odd {
		if code%2 > 0 {
			odd[code] = ""
		}
	}
	list = append(list, api.Font{Name: "F", Names: odd})
	for i, f := range list {
		more, o, wrong := made(library(), f)
		if back, e := font.Read(more, o); wrong != "" || e != api.OK || !same(back, f) {
			t.Errorf("Make %d: %s, and is read as %s, %d", i, wrong, brief(back), e)
		}
	}
}

// Promise 47.4: errors.
func TestMakeErrors(t *testing.T) {
	expect := func(what string, d api.Doc, f api.Font, want api.Errno) {
		t.Helper()
		if more, o, e := font.Make(d, f); !docs.Same(more, api.Doc{}) || !value.Same(o, api.Object{}) || e != want {
			t.Errorf("Make in %s = %s, %v, %d, want %d", what, brief(more), o, e, want)
		}
	}
	for _, b := range sample.BadDocs() {
		expect("a bad document", b.Is, sounds()[0], b.Err)
		expect("a bad document", b.Is, api.Font{}, b.Err)
	}
	full := library(value.Int(1))
	full.Items[1].Num = api.MaxNum
	for _, c := range unsound() {
		expect("a good document", library(), c.f, c.want)
		expect("a full document", full, c.f, c.want)
	}
	for i, f := range sounds() {
		expect("a full document", full, f, api.ErrFull)
		nearly := sample.Copy(full)
		nearly.Items[1].Num--
		more, o, e := font.Make(nearly, f)
		items, _ := docs.Diff(library(), more)
		if e != api.OK && e != api.ErrFull || e == api.OK && (!value.Same(o, ref(api.MaxNum)) || len(items) != 2) {
			t.Errorf("Make %d in a nearly full document = %v, %d", i, o, e)
		}
	}
}

// Promise 47.4: maps that are too long for a stream.
func TestMakeLong(t *testing.T) {
	long := many(4096)
	for i := range long {
		long[i].S = strings.Repeat("x", 256)
	}
	for _, size := range []int{1000, 1020, 4096} {
		f := api.Font{Name: "F", Wide: true, Maps: long[:size]}
		text, _ := cmap.Text(f.Maps, true)
		if len(text) > api.MaxData {
			if more, o, e := font.Make(library(), f); !docs.Same(more, api.Doc{}) || !value.Same(o, api.Object{}) || e != api.ErrLong {
				t.Errorf("Make of %d long maps = %s, %v, %d", size, brief(more), o, e)
			}
			continue
		}
		more, o, wrong := made(library(), f)
		if back, e := font.Read(more, o); wrong != "" || e != api.OK || !same(back, f) || size > 1000 {
			t.Errorf("%d long maps: %s, and are read as %s, %d", size, wrong, brief(back), e)
		}
	}
}

// What is made is a font for other readers too.
func TestMakeEntries(t *testing.T) {
	f := api.Font{Name: "F", First: 32, Widths: []int64{1, 2, 3}, Missing: 4, Names: changed(map[int]string{7: "a", 8: "b", 255: "c"}), Maps: []api.Map{{Code: 1, S: "x"}}}
	d, o, _ := made(library(), f)
	for _, c := range []struct {
		keys []string
		want api.Object
	}{
		{[]string{"Type"}, name("Font")}, {[]string{"Subtype"}, name("Type1")}, {[]string{"FirstChar"}, value.Int(32)}, {[]string{"LastChar"}, value.Int(34)}, {[]string{"Widths"}, ints(1, 2, 3)}, {[]string{"FontDescriptor", "Type"}, name("FontDescriptor")}, {[]string{"FontDescriptor", "FontName"}, name("F")}, {[]string{"FontDescriptor", "MissingWidth"}, value.Int(4)}, {[]string{"Encoding", "Type"}, name("Encoding")}, {[]string{"Encoding", "Differences"}, sample.Array(value.Int(7), name("a"), name("b"), value.Int(255), name("c"))},
	} {
		if got := docs.Path(d, o, c.keys...); !value.Same(got, c.want) {
			t.Errorf("%v is %v, want %v", c.keys, got, c.want)
		}
	}
	d, o, _ = made(library(), api.Font{Name: "F", Wide: true, First: 7, Widths: []int64{1, 2}, Missing: 4})
	kids := docs.Path(d, o, "DescendantFonts").Kids
	if len(kids) != 1 || kids[0].Kind != api.KRef {
		t.Fatalf("the descendants are %v", kids)
	}
	for _, c := range []struct {
		keys []string
		want api.Object
	}{
		{[]string{"Type"}, name("Font")}, {[]string{"Subtype"}, name("CIDFontType2")}, {[]string{"BaseFont"}, name("F")}, {[]string{"DW"}, value.Int(4)}, {[]string{"W"}, sample.Array(value.Int(7), ints(1, 2))}, {[]string{"CIDSystemInfo", "Ordering"}, value.String("Identity")},
	} {
		if got := docs.Path(d, kids[0], c.keys...); !value.Same(got, c.want) {
			t.Errorf("%v of the descendant is %v, want %v", c.keys, got, c.want)
		}
	}
	// A small font is one item.
	for _, f := range []api.Font{{Name: "Helvetica"}, {Name: "Helvetica", First: 256}, {Name: "F", Names: slices.Repeat([]string{"A"}, 256), Widths: []int64{1}}} {
		d, o, wrong := made(library(), f)
		if wrong != "" || len(d.Items) != 2 {
			t.Errorf("Make of %s: %s, %d items", brief(f), wrong, len(d.Items))
		}
		if len(f.Widths) == 0 && (docs.Path(d, o, "Widths").Kind != api.KNull || docs.Path(d, o, "LastChar").Kind != api.KNull) {
			t.Errorf("Make of %s has widths", brief(f))
		}
	}
}
