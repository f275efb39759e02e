package alphabet_test

import (
	"slices"
	"testing"

	"foliant/alphabet"
)

func TestRepeats(t *testing.T) {
	repeats := alphabet.Repeats()
	for sign, want := range map[int][2]int{alphabet.Same: {3, 6}, alphabet.Zeros: {3, 10}, alphabet.Wide: {11, 138}} {
		if r := repeats[sign]; r.Least != want[0] || r.Most() != want[1] {
			t.Errorf("%d repeats a length %d to %d times, want %v", sign, r.Least, r.Most(), want)
		}
	}
	if len(repeats) != 3 {
		t.Errorf("%d symbols repeat a length", len(repeats))
	}
}

func TestOrder(t *testing.T) {
	order := alphabet.Order()
	sorted := slices.Sorted(slices.Values(order[:]))
	for i, sign := range sorted {
		if sign != i {
			t.Errorf("the symbols are %v", sorted)
		}
	}
}
