package catalog_test

import (
	"strings"
	"testing"

	"foliant/api"
	"foliant/catalog"
	"foliant/docs"
	"foliant/sample"
	"foliant/value"
)

// infoDoc returns a document whose trailer has an Info, unless it is null, and two items beside the catalog.
func infoDoc(info, second, third api.Object) api.Doc {
	d := sample.Doc(1, item(1, sample.Dict("Title", value.String("catalog"))), item(2, second), api.Item{Num: 3, Gen: 5, Obj: third})
	if info.Kind != api.KNull {
		d.Trailer = sample.Dict("ID Info Root", value.Array(), info, ref(1))
	}
	return d
}

// Promise 34.3.
func TestInfo(t *testing.T) {
	dict := sample.Dict("Author Title", value.Name("a"), value.String("t\x00"))
	far := sample.Dict("Author Title", ref(9), sample.Ref(3, 5))
	stream := api.Object{Kind: api.KStream, Keys: dict.Keys, Kids: dict.Kids, S: "Title"}
	empty := api.Object{Kind: api.KDict, Keys: []string{"", "Title"}, Kids: []api.Object{value.String("empty"), value.String("")}}
	for i, c := range []struct {
		d         api.Doc
		key, want string
	}{
		{infoDoc(dict, value.Null(), value.Null()), "Title", "t\x00"},
		{infoDoc(dict, value.Null(), value.Null()), "Author", ""},
		{infoDoc(dict, value.Null(), value.Null()), "title", ""},
		{infoDoc(dict, value.Null(), value.Null()), "", ""},
		{infoDoc(dict, value.Null(), value.Null()), longKey + "k", ""},
		{infoDoc(ref(2), dict, value.Null()), "Title", "t\x00"},
		{infoDoc(sample.Ref(3, 5), value.Null(), dict), "Title", "t\x00"},
		{infoDoc(ref(3), value.Null(), dict), "Title", ""},
		{infoDoc(ref(9), value.Null(), dict), "Title", ""},
		{infoDoc(ref(2), far, value.String("far")), "Title", "far"},
		{infoDoc(ref(2), far, value.Name("far")), "Title", ""},
		{infoDoc(ref(2), far, value.String("far")), "Author", ""},
		{infoDoc(far, value.Null(), value.String("far")), "Title", "far"},
		{infoDoc(ref(1), value.Null(), value.Null()), "Title", "catalog"},
		{infoDoc(ref(2), stream, value.Null()), "Title", ""},
		{infoDoc(ref(2), value.Array(dict), value.Null()), "Title", ""},
		{infoDoc(value.String("Title"), dict, value.Null()), "Title", ""},
		{infoDoc(value.Null(), dict, value.Null()), "Title", ""},
		{infoDoc(empty, value.Null(), value.Null()), "", "empty"},
		{infoDoc(empty, value.Null(), value.Null()), "Title", ""},
		{infoDoc(dict, api.Object{Kind: 99}, value.Null()), "Title", ""},
		{infoDoc(dict, ref(1), value.Null()), "Title", ""},
		{api.Doc{Trailer: sample.Dict("Info", dict)}, "Title", ""},
		{api.Doc{}, "Title", ""},
	} {
		if got := catalog.Info(c.d, c.key); got != c.want {
			t.Errorf("Info %d = %q, want %q", i, got, c.want)
		}
	}
}

// Promise 34.3, by the example of the chapter.
func TestExample(t *testing.T) {
	d, _ := catalog.New(1)
	got, e := catalog.SetInfo(d, "Title", "a")
	want := sample.Copy(d)
	want.Items = append(want.Items, item(4, sample.Dict("Title", value.String("a"))))
	want.Trailer = sample.Dict("Info Root", ref(4), ref(1))
	if catalog.Info(got, "Title") != "a" || catalog.Info(got, "Author") != "" {
		t.Errorf("Info = %q, %q", catalog.Info(got, "Title"), catalog.Info(got, "Author"))
	}
	isDoc(t, "SetInfo", d, got, e, want, api.OK)
}

// Promises 34.3 and 34.5.
func TestSetInfo(t *testing.T) {
	dict := sample.Dict("Author Title", ref(1), value.String("old"))
	a := value.String("a")
	added := func(d api.Doc) api.Doc {
		d = sample.Copy(d)
		d.Items = append(d.Items, item(4, sample.Dict("Title", a)))
		d.Trailer, _ = value.Set(d.Trailer, "Info", ref(4))
		return d
	}
	null, stream := value.Null(), api.Object{Kind: api.KStream, S: "s"}
	for i, c := range []struct {
		d         api.Doc
		key, text string
		want      api.Doc
	}{
		{infoDoc(dict, null, null), "Title", "a", infoDoc(sample.Dict("Author Title", ref(1), a), null, null)},
		{infoDoc(dict, null, null), "Title", "", infoDoc(sample.Dict("Author", ref(1)), null, null)},
		{infoDoc(dict, null, null), "Author", "", infoDoc(sample.Dict("Title", value.String("old")), null, null)},
		{infoDoc(dict, null, null), "Creator", "a", infoDoc(sample.Dict("Author Creator Title", ref(1), a, value.String("old")), null, null)},
		{infoDoc(dict, null, null), "Creator", "", infoDoc(dict, null, null)},
		{infoDoc(sample.Dict("Title", a), null, null), "Title", "", infoDoc(sample.Dict(""), null, null)},
		{infoDoc(ref(2), dict, null), "Title", "a", infoDoc(ref(2), sample.Dict("Author Title", ref(1), a), null)},
		{infoDoc(ref(2), dict, null), "Title", "", infoDoc(ref(2), sample.Dict("Author", ref(1)), null)},
		{infoDoc(ref(2), dict, null), "X", "", infoDoc(ref(2), dict, null)},
		{infoDoc(sample.Ref(3, 5), null, dict), "Author", "a", infoDoc(sample.Ref(3, 5), null, sample.Dict("Author Title", a, value.String("old")))},
		{infoDoc(ref(1), null, null), "Title", "", sample.Doc(1)},
		{infoDoc(ref(3), null, dict), "Title", "a", added(infoDoc(ref(3), null, dict))},
		{infoDoc(ref(3), null, dict), "Title", "", infoDoc(ref(3), null, dict)},
		{infoDoc(ref(4), null, dict), "Title", "a", added(infoDoc(ref(4), null, dict))},
		{infoDoc(ref(9), null, dict), "Title", "", infoDoc(ref(9), null, dict)},
		{infoDoc(ref(2), stream, null), "Title", "a", added(infoDoc(ref(2), stream, null))},
		{infoDoc(ref(2), stream, null), "Title", "", infoDoc(ref(2), stream, null)},
		{infoDoc(value.Array(dict), null, null), "Title", "a", added(infoDoc(value.Array(dict), null, null))},
		{infoDoc(value.Array(dict), null, null), "Title", "", infoDoc(value.Array(dict), null, null)},
		{infoDoc(null, null, dict), "Title", "a", added(infoDoc(null, null, dict))},
		{infoDoc(null, null, dict), "Title", "", infoDoc(null, null, dict)},
	} {
		if len(c.want.Items) == 0 {
			c.want = sample.Copy(c.d)
			c.want.Items[0].Obj = sample.Dict("")
		}
		got, e := catalog.SetInfo(c.d, c.key, c.text)
		if catalog.Info(got, c.key) != c.text {
			t.Errorf("Info after SetInfo %d = %q", i, catalog.Info(got, c.key))
		}
		isDoc(t, "SetInfo", c.d, got, e, c.want, api.OK)
	}
	d := infoDoc(null, null, null)
	for _, key := range []string{longKey, "\x01", " "} {
		for _, text := range []string{"\x00", strings.Repeat("t", api.MaxText)} {
			got, e := catalog.SetInfo(d, key, text)
			if catalog.Info(got, key) != text || e != api.OK || docs.Check(got) != api.OK {
				t.Errorf("Info of %q = %q, %d, want %q", key, catalog.Info(got, key), e, text)
			}
		}
	}
}

// Promise 34.3: the errors, in their order.
func TestSetInfoErrors(t *testing.T) {
	d, _ := catalog.New(1)
	long := strings.Repeat("t", api.MaxText+1)
	full := infoDoc(sample.Broad(api.MaxKids), value.Null(), value.Null())
	fullItem := infoDoc(ref(2), sample.Broad(api.MaxKids), value.Null())
	last := sample.Doc(api.MaxNum, item(api.MaxNum, sample.Dict("")))
	for _, c := range []struct {
		d         api.Doc
		key, text string
		want      api.Errno
	}{
		{d, "", "a", api.ErrForm}, {d, "", "", api.ErrForm}, {d, "", long, api.ErrForm}, {d, "\x00", "a", api.ErrForm}, {d, longKey + "\x00", long, api.ErrForm},
		{d, longKey + "k", "a", api.ErrLong}, {d, longKey + "k", "", api.ErrLong}, {d, "A", long, api.ErrLong},
		{full, "A", "a", api.ErrMany}, {fullItem, "A", "a", api.ErrMany}, {full, "A", long, api.ErrLong}, {fullItem, "A\x00", "a", api.ErrForm},
		{last, "A", "a", api.ErrFull}, {last, "A", long, api.ErrLong}, {last, "", "a", api.ErrForm},
	} {
		got, e := catalog.SetInfo(c.d, c.key, c.text)
		isDoc(t, "SetInfo", c.d, got, e, api.Doc{}, c.want)
	}
	for _, c := range []api.Doc{last, full, fullItem} {
		got, e := catalog.SetInfo(c, "A", "")
		isDoc(t, "SetInfo", c, got, e, c, api.OK)
	}
	last.Trailer = sample.Dict("Info Root", sample.Dict(""), ref(api.MaxNum))
	if got, e := catalog.SetInfo(last, "A", "a"); catalog.Info(got, "A") != "a" || e != api.OK {
		t.Errorf("SetInfo without an item = %d", e)
	}
	for _, b := range sample.BadDocs() {
		for _, key := range []string{"A", "", longKey + "k"} {
			for _, text := range []string{"", "a", long} {
				got, e := catalog.SetInfo(b.Is, key, text)
				isDoc(t, "SetInfo", b.Is, got, e, api.Doc{}, b.Err)
			}
		}
	}
}

// Promise 34.5: what is stored is found, and nothing else changes.
func TestInfoOfManyDocuments(t *testing.T) {
	for n, d := range append(sample.Webs(), sample.Trees()...) {
		key := []string{"A", "B", "Title"}[n%3]
		before := map[string]string{}
		info := docs.Path(d, d.Trailer, "Info")
		for _, other := range []string{"A", "B", "Title"} {
			before[other] = catalog.Info(d, other)
		}
		got, e := catalog.SetInfo(d, key, "text")
		if e != api.OK || docs.Check(got) != api.OK || catalog.Info(got, key) != "text" {
			t.Fatalf("Info of %s = %q, %d", brief(got), catalog.Info(got, key), e)
		}
		for _, other := range []string{"A", "B", "Title"} {
			if text := catalog.Info(got, other); other != key && text != before[other] && info.Kind == api.KDict {
				t.Errorf("%s of %s has become %q", other, brief(d), text)
			}
		}
		place, _ := value.Get(got.Trailer, "Info")
		for _, i := range d.Items {
			if now, ok := docs.Get(got, i.Num); !ok || int64(i.Num) != place.N && (now.Gen != i.Gen || !value.Same(now.Obj, i.Obj)) {
				t.Errorf("item %d of %s has become %s", i.Num, brief(d), brief(now))
			}
		}
		gone, e := catalog.SetInfo(got, key, "")
		if catalog.Info(gone, key) != "" || e != api.OK || !value.Same(gone.Trailer, got.Trailer) {
			t.Errorf("Info after SetInfo of nothing = %q, %d", catalog.Info(gone, key), e)
		}
	}
}
