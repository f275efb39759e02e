package code_test

import (
	"math/rand"
	"slices"
	"testing"

	"foliant/api"
	"foliant/code"
)

// least returns the least cost of a valid code for counts, of at most so many bits: it goes down the levels of the tree of all codes, and gives the most frequent symbols the leaves of each level.
func least(counts []int, most int) int {
	counts = slices.DeleteFunc(slices.Clone(counts), func(n int) bool { return n == 0 })
	if len(counts) == 1 {
		return counts[0]
	}
	slices.Sort(counts)
	slices.Reverse(counts)
	rest := make([]int, len(counts)+1) // rest[i]: the sum from i on
	for i := len(counts) - 1; i >= 0; i-- {
		rest[i] = rest[i+1] + counts[i]
	}
	type place struct{ given, open, level int }
	known := map[place]int{}
	var cost func(p place) int
	cost = func(p place) int { // the cost of all bits below a level with open nodes, none of which has its symbol yet
		left := len(counts) - p.given
		if left == 0 && p.open == 0 {
			return 0
		}
		if p.open == 0 || p.open > left || p.level == most && p.open < left {
			return 1 << 60
		}
		if best, ok := known[p]; ok {
			return best
		}
		best := 1 << 60
		for leaves := range p.open + 1 {
			below := p.open - leaves
			if p.level == most && below > 0 {
				continue
			}
			best = min(best, rest[p.given+leaves]+cost(place{p.given + leaves, 2 * below, p.level + 1}))
		}
		known[p] = best
		return best
	}
	if len(counts) == 0 {
		return 0
	}
	return cost(place{0, 1, 0})
}

// checkLengths holds the lengths of a code against promise 10.2.
func checkLengths(t *testing.T, counts []int, most, cost int) {
	t.Helper()
	before := slices.Clone(counts)
	lens, e := code.Lengths(counts, most)
	if e != api.OK || len(lens) != len(counts) || wanted(lens) != api.OK {
		t.Fatalf("Lengths(%s, %d) = %s, %d", brief(counts), most, brief(lens), e)
	}
	for sign, n := range lens {
		if n > most || (n == 0) != (counts[sign] == 0) {
			t.Fatalf("Lengths(%s, %d): %d has %d", brief(counts), most, sign, n)
		}
	}
	if got := code.Cost(lens, counts); got != cost {
		t.Fatalf("Lengths(%s, %d) = %s costs %d, want %d", brief(counts), most, brief(lens), got, cost)
	}
	if !slices.Equal(counts, before) {
		t.Fatalf("Lengths changes %s into %s", brief(before), brief(counts))
	}
}

// Promise 10.2.
func TestLengths(t *testing.T) {
	for n := range 6 {
		lists(n, 0, 4, func(l []int) {
			some := n - len(slices.DeleteFunc(slices.Clone(l), func(v int) bool { return v > 0 }))
			for _, most := range []int{1, 2, 3, 15} {
				if some <= 1<<most {
					checkLengths(t, l, most, least(l, most))
				} else if got, e := code.Lengths(l, most); len(got) > 0 || e != api.ErrCode {
					t.Fatalf("Lengths(%v, %d) = %v, %d", l, most, got, e)
				}
			}
		})
	}
}

// Promise 10.2: many symbols, of counts that would make long codes.
func TestManyLengths(t *testing.T) {
	r := rand.New(rand.NewSource(1))
	fibonacci := []int{1, 1}
	for len(fibonacci) < 40 {
		fibonacci = append(fibonacci, fibonacci[len(fibonacci)-1]+fibonacci[len(fibonacci)-2])
	}
	powers := []int{1}
	for len(powers) < 31 {
		powers = append(powers, 2*powers[len(powers)-1])
	}
	all := [][]int{fibonacci, powers, filled(30, api.MaxInt), append(filled(20, 1), filled(12, api.MaxInt)...)}
	for range 20 {
		l := make([]int, 1+r.Intn(40))
		for i := range l {
			l[i] = r.Intn(1 << r.Intn(31))
		}
		all = append(all, l)
	}
	for _, l := range all {
		r.Shuffle(len(l), func(i, j int) { l[i], l[j] = l[j], l[i] })
		for _, most := range []int{6, 7, 8, 9, 12, 15} {
			checkLengths(t, l, most, least(l, most))
		}
	}
}

// Promise 10.2: as many symbols as a code has room for.
func TestFullLengths(t *testing.T) {
	for most := 1; most <= api.MaxBits; most++ {
		for _, n := range []int{1, 2, 3, 1<<most - 1, 1 << most, 1<<most + 1} {
			if n > 130 && most != 8 && most != 15 {
				continue
			}
			n = min(n, api.MaxCodes)
			counts := make([]int, n)
			for i := range counts {
				counts[i] = i*i*i + 1
			}
			if n > 1<<most {
				if got, e := code.Lengths(counts, most); len(got) > 0 || e != api.ErrCode {
					t.Errorf("%d codes of %d bits: %s, %d", n, most, brief(got), e)
				}
				continue
			}
			checkLengths(t, counts, most, least(counts, most))
		}
	}
}

// Promise 10.2.
func TestLengthsErrors(t *testing.T) {
	for _, c := range []struct {
		counts []int
		most   int
		want   api.Errno
	}{
		{nil, 0, api.ErrArg}, {nil, 16, api.ErrArg}, {nil, -1, api.ErrArg}, {[]int{1}, 1 << 40, api.ErrArg},
		{filled(289, 0), 15, api.ErrMany}, {filled(289, -1), 0, api.ErrMany}, {filled(289, 1), 1, api.ErrMany},
		{[]int{-1}, 5, api.ErrArg}, {[]int{0, api.MaxInt + 1}, 5, api.ErrArg}, {[]int{1, 1, 1, -1}, 1, api.ErrArg}, {[]int{1, 1, 1}, 0, api.ErrArg}, {[]int{1 << 62, 1}, 15, api.ErrArg},
		{[]int{1, 1, 1}, 1, api.ErrCode}, {[]int{1, 0, 1, 1, 1, 1}, 2, api.ErrCode}, {filled(288, 1), 8, api.ErrCode}, {filled(257, 1), 8, api.ErrCode},
	} {
		if got, e := code.Lengths(c.counts, c.most); len(got) > 0 || e != c.want {
			t.Errorf("Lengths(%s, %d) = %s, %d, want %d", brief(c.counts), c.most, brief(got), e, c.want)
		}
	}
	for _, l := range [][]int{nil, {}, {0}, filled(288, 0)} {
		checkLengths(t, l, 1, 0)
		checkLengths(t, l, 15, 0)
	}
	for _, most := range []int{1, 2, 15} {
		checkLengths(t, []int{0, api.MaxInt, 0}, most, api.MaxInt)
	}
}
