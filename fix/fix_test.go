package fix_test

import (
	"math"
	"math/big"
	"slices"
	"testing"

	"foliant/api"
	"foliant/fix"
)

// spread is a list of numbers about every edge that the functions have.
func spread() []int64 {
	var list []int64
	for _, n := range []int64{0, 5000, api.One, 3 * api.One, 12345678, api.MaxFix, 1 << 62, math.MaxInt64 - 2} {
		for d := range int64(5) {
			if n <= math.MaxInt64-d+2 {
				list = append(list, n+d-2, -(n + d - 2))
			}
		}
	}
	return append(list, math.MinInt64, 7, 999, 33333, 123456789, 1<<40, -1<<40)
}

// inRange reports whether n is a number of units.
func inRange(n int64) bool { return n >= -api.MaxFix && n <= api.MaxFix }

// nearest is floor(n/by + 1/2), with numbers of any size; by is positive.
func nearest(n, by *big.Int) *big.Int {
	twice := new(big.Int).Lsh(n, 1)
	// With a positive divisor, Div of math/big rounds down.
	return twice.Div(twice.Add(twice, by), new(big.Int).Lsh(by, 1))
}

// bounded is the answer for a result of any size: ErrRange if it is not in range.
func bounded(n *big.Int) (int64, api.Errno) {
	if n.IsInt64() && inRange(n.Int64()) {
		return n.Int64(), api.OK
	}
	return 0, api.ErrRange
}

// check compares an answer with the one that is wanted.
func check(t *testing.T, what string, got int64, e api.Errno, want int64, wantErr api.Errno, args ...int64) {
	t.Helper()
	if got != want || e != wantErr {
		t.Errorf("%s%v = %d, %d, want %d, %d", what, args, got, e, want, wantErr)
	}
}

// Promises 2.2 and 2.6.
func TestNear(t *testing.T) {
	for _, n := range spread() {
		for _, by := range spread() {
			got, e := fix.Near(n, by)
			switch {
			case by < 1:
				check(t, "Near", got, e, 0, api.ErrArg, n, by)
			case n < -1<<62 || n > 1<<62:
				check(t, "Near", got, e, 0, api.ErrRange, n, by)
			default:
				want := nearest(big.NewInt(n), big.NewInt(by))
				check(t, "Near", got, e, want.Int64(), api.OK, n, by)
			}
		}
	}
	for n := int64(-40); n <= 40; n++ {
		for by := int64(1); by <= 12; by++ {
			q, _ := fix.Near(n, by)
			if by*(2*q-1) > 2*n || 2*n >= by*(2*q+1) {
				t.Errorf("Near(%d, %d) = %d is not the nearest", n, by, q)
			}
		}
	}
}

// Promise 2.2.
func TestWhole(t *testing.T) {
	for _, n := range spread() {
		want := nearest(big.NewInt(n), big.NewInt(api.One)).Int64()
		if got := fix.Whole(n); got != want {
			t.Errorf("Whole(%d) = %d, want %d", n, got, want)
		}
	}
}

// Promises 2.3, 2.6 and 2.7.
func TestMulAndDiv(t *testing.T) {
	one := big.NewInt(api.One)
	for _, a := range spread() {
		for _, b := range spread() {
			product, e1 := fix.Mul(a, b)
			quotient, e2 := fix.Div(a, b)
			if !inRange(a) || !inRange(b) {
				check(t, "Mul", product, e1, 0, api.ErrRange, a, b)
				check(t, "Div", quotient, e2, 0, api.ErrRange, a, b)
				continue
			}
			n, by := big.NewInt(a), big.NewInt(b)
			want, wantErr := bounded(nearest(new(big.Int).Mul(n, by), one))
			check(t, "Mul", product, e1, want, wantErr, a, b)
			if b == 0 {
				check(t, "Div", quotient, e2, 0, api.ErrArg, a, b)
				continue
			}
			if b < 0 {
				n.Neg(n)
				by.Neg(by)
			}
			want, wantErr = bounded(nearest(n.Mul(n, one), by))
			check(t, "Div", quotient, e2, want, wantErr, a, b)
		}
		if inRange(a) {
			product, e1 := fix.Mul(a, api.One)
			swapped, e2 := fix.Mul(api.One, a)
			quotient, e3 := fix.Div(a, api.One)
			check(t, "Mul by One", product, e1, a, api.OK, a)
			check(t, "Mul of One", swapped, e2, a, api.OK, a)
			check(t, "Div by One", quotient, e3, a, api.OK, a)
		}
	}
}

// Promise 2.3.
func TestDivSigns(t *testing.T) {
	for _, c := range [][3]int64{{1, 20000, 1}, {-1, 20000, 0}, {1, -20000, 0}, {-1, -20000, 1}, {10000, 30000, 3333}, {20000, -30000, -6667}} {
		got, e := fix.Div(c[0], c[1])
		check(t, "Div", got, e, c[2], api.OK, c[0], c[1])
	}
}

// Promises 2.3 and 2.6.
func TestDot(t *testing.T) {
	list := slices.DeleteFunc(spread(), func(n int64) bool { return n > api.MaxFix+1 || n < -api.MaxFix-1 })
	for i := range list {
		for size := range 5 {
			var args []int64
			sum, wrong := new(big.Int), false
			for k := range size {
				a, b := list[(i+7*k)%len(list)], list[(3*i+5*k+1)%len(list)]
				args = append(args, a, b)
				wrong = wrong || !inRange(a) || !inRange(b)
				sum.Add(sum, new(big.Int).Mul(big.NewInt(a), big.NewInt(b)))
			}
			want, wantErr := bounded(nearest(sum, big.NewInt(api.One)))
			if wrong {
				want, wantErr = 0, api.ErrRange
			}
			got, e := fix.Dot(args...)
			check(t, "Dot", got, e, want, wantErr, args...)
			slices.Reverse(args)
			got, e = fix.Dot(args...)
			check(t, "Dot", got, e, want, wantErr, args...)
		}
	}
}

// Promise 2.3.
func TestDotEdges(t *testing.T) {
	const big = api.MaxFix
	for _, c := range []struct {
		args []int64
		want int64
		err  api.Errno
	}{
		{nil, 0, api.OK},
		{[]int64{5000, 1, 5000, 1}, 1, api.OK},
		{[]int64{5000, 1, 4999, 1}, 1, api.OK},
		{[]int64{4999, 1, 0, 1}, 0, api.OK},
		{[]int64{1}, 0, api.ErrArg},
		{[]int64{big + 1}, 0, api.ErrArg},
		{[]int64{1, 2, 3}, 0, api.ErrArg},
		{make([]int64, 9), 0, api.ErrArg},
		{make([]int64, 10), 0, api.ErrArg},
		{[]int64{big + 1, 0, 0, 0, 0, 0, 0, 0, 0, 0}, 0, api.ErrArg},
		{make([]int64, 8), 0, api.OK},
		{[]int64{big + 1, 0}, 0, api.ErrRange},
		{[]int64{0, 0, 0, -big - 1}, 0, api.ErrRange},
		{[]int64{big, big, big, big, big, big, big, big}, 0, api.ErrRange},
		{[]int64{big, big, big, -big, -big, big, big, big}, 0, api.OK},
		{[]int64{big, 10000, 1, 4999}, big, api.OK},
		{[]int64{big, 10000, 1, 5000}, 0, api.ErrRange},
		{[]int64{-big, 10000, -1, 5000}, -big, api.OK},
		{[]int64{-big, 10000, -1, 5001}, 0, api.ErrRange},
	} {
		got, e := fix.Dot(c.args...)
		check(t, "Dot", got, e, c.want, c.err, c.args...)
	}
}

// Promises 2.3 and 2.6.
func TestSum(t *testing.T) {
	const big = api.MaxFix
	for _, c := range []struct {
		args []int64
		want int64
		err  api.Errno
	}{
		{nil, 0, api.OK},
		{[]int64{-7}, -7, api.OK},
		{[]int64{3, 4, -5}, 2, api.OK},
		{[]int64{big, 1}, 0, api.ErrRange},
		{[]int64{-big, -1}, 0, api.ErrRange},
		{[]int64{big, big, -big}, big, api.OK},
		{[]int64{big, 1, -1}, big, api.OK},
		{[]int64{big + 1, -1}, 0, api.ErrRange},
		{[]int64{1, -big - 1}, 0, api.ErrRange},
		{[]int64{math.MaxInt64, math.MaxInt64}, 0, api.ErrRange},
		{[]int64{math.MinInt64, math.MaxInt64, 1}, 0, api.ErrRange},
	} {
		got, e := fix.Sum(c.args...)
		check(t, "Sum", got, e, c.want, c.err, c.args...)
		turned := slices.Clone(c.args)
		slices.Reverse(turned)
		got, e = fix.Sum(turned...)
		check(t, "Sum", got, e, c.want, c.err, turned...)
	}
}

// Promises 2.4 and 2.7.
func TestRoot(t *testing.T) {
	list := spread()
	for n := range int64(3000) {
		list = append(list, n, n*n, n*n*100, api.MaxFix-n)
	}
	for _, n := range list {
		r, e := fix.Root(n)
		switch {
		case !inRange(n):
			check(t, "Root", r, e, 0, api.ErrRange, n)
		case n < 0:
			check(t, "Root", r, e, 0, api.ErrArg, n)
		case e != api.OK || r < 0 || r*r > n*api.One || (r+1)*(r+1) <= n*api.One:
			t.Errorf("Root(%d) = %d, %d", n, r, e)
		}
	}
	if r, e := fix.Root(api.MaxFix); r != 3276800 || e != api.OK {
		t.Errorf("Root(MaxFix) = %d, %d", r, e)
	}
}
