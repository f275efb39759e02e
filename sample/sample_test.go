package sample_test

import (
	"testing"

	"foliant/api"
	"foliant/sample"
	"foliant/value"
)

func TestSamplesAreValid(t *testing.T) {
	kinds := map[int]int{}
	for i, o := range append(sample.Objects(), sample.Streams()...) {
		if e := value.Check(o); e != api.OK {
			t.Errorf("sample %d has the error %d", i, e)
		}
		kinds[o.Kind]++
	}
	for kind := range 10 {
		if kinds[kind] == 0 {
			t.Errorf("no sample of kind %d", kind)
		}
	}
}
