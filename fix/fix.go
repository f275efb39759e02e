// Package fix implements fixed-point arithmetic: see ../../shared/DOC.md and doc/02-fix.md.
package fix

import "foliant/api"

// maxNear is the greatest magnitude of a number that Near divides.
const maxNear = 1 << 62

// Near returns the nearest integer to n/by.
func Near(n, by int64) (int64, api.Errno) {
	if by < 1 {
		return 0, api.ErrArg
	}
	return attempt(func() int64 { return near(within(n, maxNear), by) })
}

// Whole returns the nearest integer to n/One.
func Whole(n int64) int64 { return near(n, api.One) }

// Mul returns the product of a and b.
func Mul(a, b int64) (int64, api.Errno) {
	return attempt(func() int64 { return sized(near(sized(a)*sized(b), api.One)) })
}

// Div returns the quotient of a and b.
func Div(a, b int64) (int64, api.Errno) {
	return attempt(func() int64 {
		n, by := sized(a)*api.One, sized(b)
		if by == 0 {
			panic(api.ErrArg)
		}
		if by < 0 {
			n, by = -n, -by
		}
		return sized(near(n, by))
	})
}

// Dot returns the sum of the products of the pairs in l, rounded once.
func Dot(l ...int64) (int64, api.Errno) {
	if len(l)%2 != 0 || len(l) > 8 {
		return 0, api.ErrArg
	}
	return attempt(func() int64 {
		sum := int64(0)
		for i := range len(l) / 2 {
			sum += sized(l[2*i]) * sized(l[2*i+1])
		}
		return sized(near(sum, api.One))
	})
}

// Sum returns the sum of the numbers in l.
func Sum(l ...int64) (int64, api.Errno) {
	return attempt(func() int64 {
		sum := int64(0)
		for _, n := range l {
			sum += sized(n)
		}
		return sized(sum)
	})
}

// Root returns the square root of n, rounded down.
func Root(n int64) (int64, api.Errno) {
	return attempt(func() int64 {
		if sized(n) < 0 {
			panic(api.ErrArg)
		}
		return root(n * api.One)
	})
}

// near returns the nearest integer to n/by, for a positive by. It compares the remainder with what is left of by, since doubling it could wrap around.
func near(n, by int64) int64 {
	quotient, rest := n/by, n%by
	if rest < 0 {
		quotient, rest = quotient-1, rest+by
	}
	if rest >= by-rest {
		quotient++
	}
	return quotient
}

// root returns the greatest integer whose square is at most n, bit by bit from the highest one. The root of One*MaxFix has 22 bits.
func root(n int64) int64 {
	r := int64(0)
	for i := range 22 {
		more := r + 1<<(21-i)
		if more*more <= n {
			r = more
		}
	}
	return r
}

// sized returns n, and gives up if it is not in range.
func sized(n int64) int64 { return within(n, api.MaxFix) }

// within returns n, and gives up if its magnitude exceeds most.
func within(n, most int64) int64 {
	if n < -most || n > most {
		panic(api.ErrRange)
	}
	return n
}

// attempt returns the result of work, or the error with which it gives up.
func attempt(work func() int64) (n int64, e api.Errno) {
	defer func() {
		if r := recover(); r != nil {
			n, e = 0, reason(r)
		}
	}()
	return work(), api.OK
}

// reason returns the error in a panic value. Any other value is a mistake of this package, which must not pass for a result.
func reason(r any) api.Errno {
	e, ok := r.(api.Errno)
	if !ok {
		panic(r)
	}
	return e
}
