package matrix_test

import (
	"math"
	"math/big"
	"testing"

	"foliant/api"
	"foliant/matrix"
	"foliant/sample"
	"foliant/value"
)

const most = api.MaxFix

// edge is a list of numbers about the edges of what a matrix may have.
func edge() []int64 {
	return []int64{0, 1, -1, 4999, 5000, -5000, api.One, -api.One, 3*api.One + 1, 70000, -123456, 1 << 20, most / 2, most - 1, most, -most, most + 1, -most - 1, math.MaxInt64, math.MinInt64}
}

// mixer makes choices that look irregular and are always the same.
type mixer uint32

// among returns one of the numbers.
func (x *mixer) among(list []int64) int64 {
	*x = *x*1664525 + 1013904223
	return list[int(*x>>8)%len(list)]
}

// matrix returns a matrix of some of the numbers.
func (x *mixer) matrix(list []int64) api.Matrix {
	return api.Matrix{A: x.among(list), B: x.among(list), C: x.among(list), D: x.among(list), E: x.among(list), F: x.among(list)}
}

// point returns a point of some of the numbers.
func (x *mixer) point(list []int64) api.Point {
	return api.Point{X: x.among(list), Y: x.among(list)}
}

// lists returns lists of numbers: with the great ones few results are in range, and without them few are not.
func lists() [][]int64 {
	return [][]int64{edge(), edge()[:16], edge()[:12], {0, 1, -1, 5000, 4999, -5001, api.One, -api.One, 20000, -30000}}
}

// inRange reports whether n can be a coefficient.
func inRange(n int64) bool { return n >= -most && n <= most }

// coefficients returns the coefficients of m in order.
func coefficients(m api.Matrix) []int64 { return []int64{m.A, m.B, m.C, m.D, m.E, m.F} }

// isRange reports whether all numbers are in range.
func isRange(list ...int64) bool {
	for _, n := range list {
		if !inRange(n) {
			return false
		}
	}
	return true
}

// dot returns the sum of the products of pairs, in units, with numbers of any size, and whether it is in range.
func dot(pairs ...int64) (int64, bool) {
	sum, one := big.NewInt(api.One/2), big.NewInt(api.One)
	for i := 0; i < len(pairs); i += 2 {
		sum.Add(sum, new(big.Int).Mul(big.NewInt(pairs[i]), big.NewInt(pairs[i+1])))
	}
	// With a positive divisor, Div of math/big rounds down.
	sum.Div(sum, one)
	return sum.Int64(), sum.IsInt64() && inRange(sum.Int64())
}

// product is what Mul must return.
func product(a, b api.Matrix) (api.Matrix, api.Errno) {
	if !isRange(coefficients(a)...) || !isRange(coefficients(b)...) {
		return api.Matrix{}, api.ErrRange
	}
	m := api.Matrix{}
	var ok [6]bool
	m.A, ok[0] = dot(a.A, b.A, a.B, b.C)
	m.B, ok[1] = dot(a.A, b.B, a.B, b.D)
	m.C, ok[2] = dot(a.C, b.A, a.D, b.C)
	m.D, ok[3] = dot(a.C, b.B, a.D, b.D)
	m.E, ok[4] = dot(a.E, b.A, a.F, b.C, b.E, api.One)
	m.F, ok[5] = dot(a.E, b.B, a.F, b.D, b.F, api.One)
	if ok != [6]bool{true, true, true, true, true, true} {
		return api.Matrix{}, api.ErrRange
	}
	return m, api.OK
}

// mapped is what Apply must return.
func mapped(m api.Matrix, p api.Point) (api.Point, api.Errno) {
	if !isRange(coefficients(m)...) || !isRange(p.X, p.Y) {
		return api.Point{}, api.ErrRange
	}
	x, ok1 := dot(p.X, m.A, p.Y, m.C, m.E, api.One)
	y, ok2 := dot(p.X, m.B, p.Y, m.D, m.F, api.One)
	if !ok1 || !ok2 {
		return api.Point{}, api.ErrRange
	}
	return api.Point{X: x, Y: y}, api.OK
}

// length is what Length must return.
func length(m api.Matrix, p api.Point) (int64, api.Errno) {
	m.E, m.F = 0, 0
	to, e := mapped(m, p)
	if e != api.OK {
		return 0, e
	}
	x, y := big.NewInt(to.X), big.NewInt(to.Y)
	x.Mul(x, x).Add(x, y.Mul(y, y)).Sqrt(x)
	if !inRange(x.Int64()) {
		return 0, api.ErrRange
	}
	return x.Int64(), api.OK
}

// Promise 42.1.
func TestSimple(t *testing.T) {
	if m := matrix.One(); m != (api.Matrix{A: 10000, D: 10000}) {
		t.Errorf("One = %v", m)
	}
	for _, x := range edge() {
		for _, y := range edge() {
			if m := matrix.Move(x, y); m != (api.Matrix{A: 10000, D: 10000, E: x, F: y}) {
				t.Errorf("Move(%d, %d) = %v", x, y, m)
			}
			if m := matrix.Scale(x, y); m != (api.Matrix{A: x, D: y}) {
				t.Errorf("Scale(%d, %d) = %v", x, y, m)
			}
		}
	}
}

// Promise 42.1.
func TestCheck(t *testing.T) {
	for _, n := range edge() {
		for i, m := range []api.Matrix{{A: n}, {B: n}, {C: n}, {D: n}, {E: n}, {F: n}, {A: n, B: n, C: n, D: n, E: n, F: n}} {
			want := api.OK
			if n < -1073741824 || n > 1073741824 {
				want = api.ErrRange
			}
			if e := matrix.Check(m); e != want {
				t.Errorf("Check %d of %d = %d, want %d", i, n, e, want)
			}
		}
	}
}

// Promise 42.2.
func TestMul(t *testing.T) {
	x, found := mixer(1), map[api.Errno]int{}
	for _, list := range lists() {
		for range 4000 {
			a, b := x.matrix(list), x.matrix(list)
			want, wantErr := product(a, b)
			got, e := matrix.Mul(a, b)
			if got != want || e != wantErr {
				t.Errorf("Mul(%v, %v) = %v, %d, want %v, %d", a, b, got, e, want, wantErr)
			}
			found[e]++
		}
	}
	if found[api.OK] < 2000 || found[api.ErrRange] < 2000 {
		t.Errorf("the errors are %v", found)
	}
}

// Promise 42.2: each coefficient has its own terms, which are rounded once.
func TestMulTerms(t *testing.T) {
	const one = api.One
	two := api.Matrix{A: 2 * one, B: 3 * one, C: 5 * one, D: 7 * one, E: 11 * one, F: 13 * one}
	for i, c := range []struct{ a, b, want api.Matrix }{
		{matrix.Move(1, 2), matrix.Scale(2*one, 3*one), api.Matrix{A: 2 * one, D: 3 * one, E: 2, F: 6}},
		{matrix.Scale(2*one, 3*one), matrix.Move(1, 2), api.Matrix{A: 2 * one, D: 3 * one, E: 1, F: 2}},
		{api.Matrix{A: one}, two, api.Matrix{A: 2 * one, B: 3 * one, E: 11 * one, F: 13 * one}},
		{api.Matrix{B: one}, two, api.Matrix{A: 5 * one, B: 7 * one, E: 11 * one, F: 13 * one}},
		{api.Matrix{C: one}, two, api.Matrix{C: 2 * one, D: 3 * one, E: 11 * one, F: 13 * one}},
		{api.Matrix{D: one}, two, api.Matrix{C: 5 * one, D: 7 * one, E: 11 * one, F: 13 * one}},
		{api.Matrix{E: one}, two, api.Matrix{E: 13 * one, F: 16 * one}},
		{api.Matrix{F: one}, two, api.Matrix{E: 16 * one, F: 20 * one}},
		{api.Matrix{A: 5000, B: 4999, C: -5000, D: -1, E: 5000, F: 4999}, api.Matrix{A: 1, C: 1, E: 7}, api.Matrix{A: 1, C: -1, E: 8}},
		{api.Matrix{A: 4999, C: -4999, D: -1}, api.Matrix{A: 1, C: 1}, api.Matrix{}},
		{api.Matrix{A: most, B: most, E: most}, api.Matrix{A: one, C: 0, E: 0}, api.Matrix{A: most, E: most}},
		{api.Matrix{E: most, F: most}, api.Matrix{A: most, C: -most, E: most}, api.Matrix{E: most}},
	} {
		if m, e := matrix.Mul(c.a, c.b); m != c.want || e != api.OK {
			t.Errorf("Mul %d = %v, %d, want %v", i, m, e, c.want)
		}
	}
	for i, c := range []struct{ a, b api.Matrix }{
		{api.Matrix{A: 20000}, api.Matrix{A: most}}, {api.Matrix{A: 20000}, api.Matrix{B: most}}, {api.Matrix{C: -20000}, api.Matrix{A: most}},
		{api.Matrix{D: 20000}, api.Matrix{D: -most}}, {matrix.Move(most, 0), matrix.Move(1, 0)}, {matrix.Move(0, -most), matrix.Move(0, -1)},
		{api.Matrix{A: most + 1}, api.Matrix{}}, {api.Matrix{}, api.Matrix{F: -most - 1}},
	} {
		if m, e := matrix.Mul(c.a, c.b); m != (api.Matrix{}) || e != api.ErrRange {
			t.Errorf("Mul of great numbers %d = %v, %d", i, m, e)
		}
	}
}

// Promise 42.3.
func TestApply(t *testing.T) {
	x, found := mixer(2), map[api.Errno]int{}
	for _, list := range lists() {
		for range 4000 {
			m, p := x.matrix(list), x.point(list)
			want, wantErr := mapped(m, p)
			got, e := matrix.Apply(m, p)
			if got != want || e != wantErr {
				t.Errorf("Apply(%v, %v) = %v, %d, want %v, %d", m, p, got, e, want, wantErr)
			}
			found[e]++
		}
	}
	if found[api.OK] < 2000 || found[api.ErrRange] < 2000 {
		t.Errorf("the errors are %v", found)
	}
	turn := api.Matrix{B: api.One, C: -api.One}
	if p, e := matrix.Apply(turn, api.Point{X: 5, Y: 7}); p != (api.Point{X: -7, Y: 5}) || e != api.OK {
		t.Errorf("Apply of a turn = %v, %d", p, e)
	}
}

// Promise 42.3: points that are out of range, although the results are not.
func TestApplyFar(t *testing.T) {
	for _, p := range []api.Point{{X: most + 1}, {Y: most + 1}, {X: -most - 1}, {Y: -most - 1}, {X: math.MinInt64, Y: math.MaxInt64}} {
		for _, m := range []api.Matrix{{}, matrix.One(), {A: 1}, {D: 1}} {
			if got, e := matrix.Apply(m, p); got != (api.Point{}) || e != api.ErrRange {
				t.Errorf("Apply(%v, %v) = %v, %d", m, p, got, e)
			}
			if n, e := matrix.Length(m, p); n != 0 || e != api.ErrRange {
				t.Errorf("Length(%v, %v) = %d, %d", m, p, n, e)
			}
		}
	}
}

// Promise 42.3.
func TestLength(t *testing.T) {
	x, found := mixer(3), map[api.Errno]int{}
	for _, list := range lists() {
		for range 4000 {
			m, p := x.matrix(list), x.point(list)
			want, wantErr := length(m, p)
			got, e := matrix.Length(m, p)
			if got != want || e != wantErr {
				t.Errorf("Length(%v, %v) = %d, %d, want %d, %d", m, p, got, e, want, wantErr)
			}
			found[e]++
		}
	}
	if found[api.OK] < 2000 || found[api.ErrRange] < 2000 {
		t.Errorf("the errors are %v", found)
	}
	for i, c := range []struct {
		m    api.Matrix
		p    api.Point
		want int64
		err  api.Errno
	}{
		{matrix.Scale(3*api.One, 4*api.One), api.Point{X: 10, Y: 10}, 50, api.OK},
		{matrix.One(), api.Point{X: 1, Y: 1}, 1, api.OK}, {matrix.One(), api.Point{X: 2, Y: 2}, 2, api.OK}, {matrix.One(), api.Point{X: -3, Y: 4}, 5, api.OK}, {matrix.One(), api.Point{}, 0, api.OK},
		{matrix.One(), api.Point{X: most}, most, api.OK}, {matrix.One(), api.Point{Y: -most}, most, api.OK},
		{matrix.One(), api.Point{X: most, Y: 46340}, most, api.OK}, {matrix.One(), api.Point{X: most, Y: 46341}, 0, api.ErrRange}, {matrix.One(), api.Point{X: most, Y: most}, 0, api.ErrRange}, {matrix.One(), api.Point{X: -most, Y: -most}, 0, api.ErrRange},
		{matrix.Move(most, most), api.Point{X: 7}, 7, api.OK}, {matrix.Move(most+1, math.MinInt64), api.Point{X: 7}, 7, api.OK}, {api.Matrix{A: most + 1}, api.Point{}, 0, api.ErrRange}, {api.Matrix{A: 20000}, api.Point{X: most}, 0, api.ErrRange},
	} {
		if n, e := matrix.Length(c.m, c.p); n != c.want || e != c.err {
			t.Errorf("Length %d = %d, %d, want %d, %d", i, n, e, c.want, c.err)
		}
	}
}

// Promise 42.3: the length is that of the integers, whatever a root of floating point would say.
func TestLengthIsExact(t *testing.T) {
	x := mixer(4)
	for range 3000 {
		n := x.among([]int64{94906265, 94906266, 1<<29 + 1, 1<<30 - 1, most}) - x.among([]int64{0, 1, 2, 3, 1000})
		p := api.Point{X: n, Y: x.among([]int64{0, 1, 5, 13776, 30000})}
		want, wantErr := length(matrix.One(), p)
		if got, e := matrix.Length(matrix.One(), p); got != want || e != wantErr {
			t.Errorf("Length(%v) = %d, %d, want %d, %d", p, got, e, want, wantErr)
		}
	}
}

// Promise 42.4.
func TestBox(t *testing.T) {
	x, found := mixer(5), map[api.Errno]int{}
	for _, list := range lists() {
		for range 4000 {
			m, from, to := x.matrix(list), x.point(list), x.point(list)
			r := api.Rect{X0: from.X, Y0: from.Y, X1: to.X, Y1: to.Y}
			var want api.Rect
			wantErr := api.OK
			for i, corner := range []api.Point{{X: r.X0, Y: r.Y0}, {X: r.X1, Y: r.Y0}, {X: r.X0, Y: r.Y1}, {X: r.X1, Y: r.Y1}} {
				p, e := mapped(m, corner)
				if i == 0 {
					want = api.Rect{X0: p.X, Y0: p.Y, X1: p.X, Y1: p.Y}
				}
				want = api.Rect{X0: min(want.X0, p.X), Y0: min(want.Y0, p.Y), X1: max(want.X1, p.X), Y1: max(want.Y1, p.Y)}
				if e != api.OK {
					wantErr = e
				}
			}
			if wantErr != api.OK {
				want = api.Rect{}
			}
			got, e := matrix.Box(m, r)
			if got != want || e != wantErr {
				t.Errorf("Box(%v, %v) = %v, %d, want %v, %d", m, r, got, e, want, wantErr)
			}
			found[e]++
		}
	}
	if found[api.OK] < 1500 || found[api.ErrRange] < 2000 {
		t.Errorf("the errors are %v", found)
	}
	turn := api.Matrix{B: api.One, C: -api.One, E: 1}
	if r, e := matrix.Box(turn, api.Rect{X0: 1, Y0: 2, X1: 4, Y1: 8}); r != (api.Rect{X0: -7, Y0: 1, X1: -1, Y1: 4}) || e != api.OK {
		t.Errorf("Box of a turn = %v, %d", r, e)
	}
}

// Promise 42.4.
func TestRead(t *testing.T) {
	n := value.Int(1)
	six := func(o api.Object) api.Object { return sample.Array(n, n, o, n, n, n) }
	whole := api.Matrix{A: 10000, B: 20000, C: -5, D: 40000, E: most, F: -1073740000}
	kids := []api.Object{n, value.Int(2), value.Real(-5), value.Int(4), value.Real(most), value.Int(-107374)}
	ones := api.Matrix{A: 10000, B: 10000, C: 10000, D: 10000, E: 10000, F: 10000}
	for i, c := range []struct {
		o    api.Object
		want api.Matrix
		err  api.Errno
	}{
		{sample.Array(kids...), whole, api.OK}, {six(n), ones, api.OK},
		// Objects that are not valid otherwise.
		{api.Object{Kind: api.KArray, N: 7, S: "s", Keys: []string{"A"}, Kids: kids}, whole, api.OK}, {six(api.Object{Kind: api.KInt, N: 1, S: "s", G: 4}), ones, api.OK},
		{value.Null(), api.Matrix{}, api.ErrKind}, {n, api.Matrix{}, api.ErrKind}, {sample.Ref(1, 0), api.Matrix{}, api.ErrKind}, {value.String("1 0 0 1 0 0"), api.Matrix{}, api.ErrKind}, {api.Object{Kind: 99, Kids: kids}, api.Matrix{}, api.ErrKind}, {api.Object{Kind: api.KStream, Kids: kids}, api.Matrix{}, api.ErrKind}, {sample.Dict("A B C D E F", kids...), api.Matrix{}, api.ErrKind},
		{sample.Array(), api.Matrix{}, api.ErrForm}, {sample.Array(kids[:5]...), api.Matrix{}, api.ErrForm}, {sample.Array(append(kids, n)...), api.Matrix{}, api.ErrForm},
		{six(value.Null()), api.Matrix{}, api.ErrForm}, {six(value.String("1")), api.Matrix{}, api.ErrForm}, {six(sample.Ref(1, 0)), api.Matrix{}, api.ErrForm}, {six(value.Bool(true)), api.Matrix{}, api.ErrForm}, {six(sample.Array(n)), api.Matrix{}, api.ErrForm},
		{six(value.Int(107375)), api.Matrix{}, api.ErrForm}, {six(value.Int(-107375)), api.Matrix{}, api.ErrForm}, {six(value.Int(math.MinInt64)), api.Matrix{}, api.ErrForm}, {six(value.Real(most + 1)), api.Matrix{}, api.ErrForm}, {six(value.Real(-most - 1)), api.Matrix{}, api.ErrForm},
		{sample.Array(n, n, n, n, n, value.Name("A")), api.Matrix{}, api.ErrForm}, {sample.Array(value.Name("A"), n, n, n, n, n), api.Matrix{}, api.ErrForm},
	} {
		if m, e := matrix.Read(c.o); m != c.want || e != c.err {
			t.Errorf("Read %d = %v, %d, want %v, %d", i, m, e, c.want, c.err)
		}
	}
}

// Promise 42.4.
func TestObject(t *testing.T) {
	m := api.Matrix{A: 10000, B: -20000, C: 0, D: 1, E: -10001, F: most}
	want := sample.Array(value.Int(1), value.Int(-2), value.Int(0), value.Real(1), value.Real(-10001), value.Real(most))
	if o := matrix.Object(m); !value.Same(o, want) {
		t.Errorf("Object = %v", o)
	}
	far := api.Matrix{A: math.MinInt64, B: math.MaxInt64, C: most + 10000 - most%10000}
	want = sample.Array(value.Real(math.MinInt64), value.Real(math.MaxInt64), value.Int(107375), value.Int(0), value.Int(0), value.Int(0))
	if o := matrix.Object(far); !value.Same(o, want) {
		t.Errorf("Object of great numbers = %v", o)
	}
}

// Of has the coefficients in order.
func TestOf(t *testing.T) {
	if m := matrix.Of([6]int64{1, 2, 3, 4, 5, 6}); m != (api.Matrix{A: 1, B: 2, C: 3, D: 4, E: 5, F: 6}) {
		t.Errorf("Of = %v", m)
	}
}

// Promise 42.5.
func TestConsequences(t *testing.T) {
	x := mixer(6)
	for _, list := range lists()[1:] {
		for range 2000 {
			m := x.matrix(list)
			left, e1 := matrix.Mul(matrix.One(), m)
			right, e2 := matrix.Mul(m, matrix.One())
			back, e3 := matrix.Read(matrix.Object(m))
			if left != m || right != m || back != m || e1 != api.OK || e2 != api.OK || e3 != api.OK {
				t.Errorf("%v becomes %v, %v and %v", m, left, right, back)
			}
			if e := value.Check(matrix.Object(m)); e != api.OK {
				t.Errorf("the object of %v has the error %d", m, e)
			}
		}
	}
	small := []int64{0, 10000, -10000, 20000, -50000, 70000}
	points := []int64{0, 1, -1, 7, 4999, 5000, -123456, 10000}
	for range 3000 {
		a, b, p := x.matrix(small), x.matrix(small), x.point(points)
		ab, e1 := matrix.Mul(a, b)
		once, e2 := matrix.Apply(ab, p)
		to, e3 := matrix.Apply(a, p)
		twice, e4 := matrix.Apply(b, to)
		if once != twice || e1 != api.OK || e2 != api.OK || e3 != api.OK || e4 != api.OK {
			t.Errorf("%v and %v map %v to %v, or to %v", a, b, p, once, twice)
		}
	}
}
