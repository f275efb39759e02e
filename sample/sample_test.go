package sample_test

import (
	"slices"
	"testing"

	"foliant/api"
	"foliant/docs"
	"foliant/sample"
	"foliant/value"
)

func TestSamplesAreValid(t *testing.T) {
	kinds := map[int]int{}
	for i, o := range append(sample.Objects(), sample.Streams()...) {
		if e := value.Check(o); e != api.OK {
			t.Errorf("sample %d has the error %d", i, e)
		}
		kinds[o.Kind]++
	}
	for kind := range 10 {
		if kinds[kind] == 0 {
			t.Errorf("no sample of kind %d", kind)
		}
	}
}

func TestDocumentsAreValid(t *testing.T) {
	for i, d := range slices.Concat(sample.Docs(), sample.Webs(), sample.Trees(), []api.Doc{sample.Chain(1, 0), sample.Chain(api.MaxNum-1, api.MaxDepth-2)}) {
		if e := docs.Check(d); e != api.OK {
			t.Errorf("document %d has the error %d", i, e)
		}
	}
}

func TestBadSamplesAreBad(t *testing.T) {
	for i, b := range sample.BadObjects() {
		if e := value.Check(b.Is); e != b.Err {
			t.Errorf("bad object %d has the error %d, not %d", i, e, b.Err)
		}
	}
	for i, b := range sample.BadDocs() {
		if e := docs.Check(b.Is); e != b.Err {
			t.Errorf("bad document %d has the error %d, not %d", i, e, b.Err)
		}
	}
}

func TestCopyAndSpoil(t *testing.T) {
	for i, d := range slices.Concat(sample.Docs(), sample.Webs(), sample.Trees()) {
		again, spoiled := sample.Copy(d), sample.Copy(d)
		sample.SpoilDoc(spoiled)
		if !docs.Same(d, again) || docs.Same(d, spoiled) {
			t.Errorf("document %d shares memory with its copy, or is not spoiled", i)
		}
		for n := range d.Items {
			o := sample.Copy(d).Items[n].Obj
			sample.Spoil(o)
			if value.Same(o, d.Items[n].Obj) != (len(o.Kids) == 0) {
				t.Errorf("item %d of document %d is not spoiled", n, i)
			}
			if len(d.Items) > 1000 {
				break
			}
		}
	}
}
