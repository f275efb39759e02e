package sample_test

import (
	"testing"

	"foliant/api"
	"foliant/docs"
	"foliant/sample"
	"foliant/value"
)

func TestSamplesAreValid(t *testing.T) {
	kinds := map[int]int{}
	for i, o := range append(sample.Objects(), sample.Streams()...) {
		if e := value.Check(o); e != api.OK {
			t.Errorf("sample %d has the error %d", i, e)
		}
		kinds[o.Kind]++
	}
	for kind := range 10 {
		if kinds[kind] == 0 {
			t.Errorf("no sample of kind %d", kind)
		}
	}
}

func TestDocumentsAreValid(t *testing.T) {
	for i, d := range append(append(sample.Docs(), sample.Webs()...), sample.Chain(1, 0), sample.Chain(api.MaxNum-1, api.MaxDepth-2)) {
		if e := docs.Check(d); e != api.OK {
			t.Errorf("document %d has the error %d", i, e)
		}
	}
}

func TestBadSamplesAreBad(t *testing.T) {
	for i, b := range sample.BadObjects() {
		if e := value.Check(b.Is); e != b.Err {
			t.Errorf("bad object %d has the error %d, not %d", i, e, b.Err)
		}
	}
	for i, b := range sample.BadDocs() {
		if e := docs.Check(b.Is); e != b.Err {
			t.Errorf("bad document %d has the error %d, not %d", i, e, b.Err)
		}
	}
}
