package sample_test

import (
	"slices"
	"testing"

	"foliant/api"
	"foliant/docs"
	"foliant/sample"
	"foliant/value"
)

func TestSamplesAreValid(t *testing.T) {
	kinds := map[int]int{}
	for i, o := range append(sample.Objects(), sample.Streams()...) {
		if e := value.Check(o); e != api.OK {
			t.Errorf("sample %d has the error %d", i, e)
		}
		kinds[o.Kind]++
	}
	for kind := range 10 {
		if kinds[kind] == 0 {
			t.Errorf("no sample of kind %d", kind)
		}
	}
}

func TestDocumentsAreValid(t *testing.T) {
	for i, d := range slices.Concat(sample.Docs(), sample.Webs(), sample.Trees(), sample.Books(), sample.Sheets(), sample.Scenes(), sample.Forms(), sample.Looks(), []api.Doc{sample.Chain(1, 0), sample.Chain(api.MaxNum-1, api.MaxDepth-2)}) {
		if e := docs.Check(d); e != api.OK {
			t.Errorf("document %d has the error %d", i, e)
		}
	}
}

func TestBadSamplesAreBad(t *testing.T) {
	for i, b := range sample.BadObjects() {
		if e := value.Check(b.Is); e != b.Err {
			t.Errorf("bad object %d has the error %d, not %d", i, e, b.Err)
		}
	}
	for i, b := range sample.BadDocs() {
		if e := docs.Check(b.Is); e != b.Err {
			t.Errorf("bad document %d has the error %d, not %d", i, e, b.Err)
		}
	}
}

func TestCopyAndSpoil(t *testing.T) {
	for i, d := range slices.Concat(sample.Docs(), sample.Webs(), sample.Trees(), sample.Books(), sample.Sheets(), sample.Scenes(), sample.Forms()) {
		again, spoiled := sample.Copy(d), sample.Copy(d)
		sample.SpoilDoc(spoiled)
		if !docs.Same(d, again) || docs.Same(d, spoiled) {
			t.Errorf("document %d shares memory with its copy, or is not spoiled", i)
		}
		for n := range d.Items {
			o := sample.Copy(d).Items[n].Obj
			sample.Spoil(o)
			if value.Same(o, d.Items[n].Obj) != (len(o.Kids) == 0) {
				t.Errorf("item %d of document %d is not spoiled", n, i)
			}
			if len(d.Items) > 1000 {
				break
			}
		}
	}
}

func TestWrong(t *testing.T) {
	d := func() api.Doc { return sample.Doc(1, api.Item{Num: 1, Obj: sample.Dict("A", sample.Ref(2, 0))}) }
	shared, invalid := d(), sample.Doc(2, d().Items...)
	for _, c := range []struct {
		from, got api.Doc
		e         api.Errno
		want      api.Doc
		wantErr   api.Errno
		wrong     string
	}{
		{d(), d(), api.OK, d(), api.OK, ""},
		{d(), api.Doc{}, api.ErrEnd, api.Doc{}, api.ErrEnd, ""},
		{d(), api.Doc{}, api.ErrEnd, api.Doc{}, api.ErrLong, "error 4, not 5"},
		{d(), d(), api.ErrEnd, api.Doc{}, api.ErrEnd, "another document"},
		{d(), api.Doc{}, api.OK, d(), api.OK, "another document"},
		{d(), invalid, api.OK, invalid, api.OK, "not valid"},
		{shared, shared, api.OK, d(), api.OK, "shares memory"},
	} {
		if wrong := sample.Wrong(c.from, c.got, c.e, c.want, c.wantErr); wrong != c.wrong {
			t.Errorf("%q is wrong, not %q", wrong, c.wrong)
		}
	}
}

func TestSettled(t *testing.T) {
	d := sample.Doc(1, api.Item{Num: 1, Obj: sample.Dict("A", sample.Array(sample.Ref(3, 5)))}, api.Item{Num: 2, Obj: sample.Dict("")})
	for num, settled := range map[int]bool{2: true, 3: false, 4: true} {
		got, _ := docs.Put(d, api.Item{Num: num})
		if sample.Settled(d, got) != settled {
			t.Errorf("a document with item %d added is settled: %v", num, !settled)
		}
	}
}
