package matrix

import (
	"foliant/api"
	"foliant/fix"
	"foliant/give"
)

// size is how many coefficients a matrix has.
const size = 6

// cells returns where the coefficients of m stand, in the order of their letters: three rows of two.
func cells(m *api.Matrix) [size]*int64 {
	return [...]*int64{&m.A, &m.B, &m.C, &m.D, &m.E, &m.F}
}

// Of returns the matrix with the given coefficients.
func Of(n [size]int64) api.Matrix {
	var m api.Matrix
	for i, to := range cells(&m) {
		*to = n[i]
	}
	return m
}

// product returns the matrix that applies a and then b, or gives up if a coefficient of it is out of range.
func product(a, b api.Matrix) api.Matrix {
	var m api.Matrix
	x, y := cells(&a), cells(&b)
	for i, to := range cells(&m) {
		row, column := i/2, i%2
		terms := []int64{*x[2*row], *y[column], *x[2*row+1], *y[2+column]}
		// Only the last row takes in what b adds to all points.
		if row == 2 {
			terms = append(terms, *y[4+column], api.One)
		}
		*to = give.Value(fix.Dot(terms...))
	}
	return m
}
