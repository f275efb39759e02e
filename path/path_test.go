package path_test

import (
	"math"
	"slices"
	"testing"

	"foliant/api"
	"foliant/matrix"
	"foliant/path"
	"foliant/sample"
	"foliant/value"
)

const most = api.MaxFix

// op returns an operator without data.
func op(name string, args ...api.Object) api.Op { return api.Op{Name: name, Args: args} }

// ints returns an operator with integers.
func ints(name string, list ...int64) api.Op {
	o := op(name)
	for _, n := range list {
		o.Args = append(o.Args, value.Int(n))
	}
	return o
}

// units returns an operator with numbers of units.
func units(name string, list ...int64) api.Op {
	o := op(name)
	for _, n := range list {
		o.Args = append(o.Args, value.Real(n))
	}
	return o
}

// at returns a point.
func at(x, y int64) api.Point { return api.Point{X: x, Y: y} }

// move, line, curve and shut return segments.
func move(x, y int64) api.Seg         { return api.Seg{Kind: api.SegMove, R: at(x, y)} }
func line(x, y int64) api.Seg         { return api.Seg{Kind: api.SegLine, R: at(x, y)} }
func curve(p, q, r api.Point) api.Seg { return api.Seg{Kind: api.SegCurve, P: p, Q: q, R: r} }
func shut() api.Seg                   { return api.Seg{Kind: api.SegClose} }

// turned is a matrix that doubles x, triples y, turns both and moves them by 100 and 200.
func turned() api.Matrix {
	return api.Matrix{B: 2 * api.One, C: -3 * api.One, E: 100, F: 200}
}

// drawn returns a path after some operators, under the identity.
func drawn(t *testing.T, list ...api.Op) *path.Path {
	t.Helper()
	x := path.New()
	for _, o := range list {
		if e := x.Do(o, matrix.One()); e != api.OK {
			t.Fatalf("Do(%v) = %d", o, e)
		}
	}
	return x
}

// full returns a path of so many segments, and the segments.
func full(t *testing.T, size int) (*path.Path, []api.Seg) {
	t.Helper()
	x, l := path.New(), []api.Seg{move(1, 1)}
	x.Do(units("m", 1, 1), matrix.One())
	for len(l) < size {
		n := int64(len(l))
		if e := x.Do(units("l", n, -n), matrix.One()); e != api.OK {
			t.Fatalf("segment %d: %d", n, e)
		}
		l = append(l, line(n, -n))
	}
	return x, l
}

// expect holds a path against segments.
func expect(t *testing.T, what any, x *path.Path, want ...api.Seg) {
	t.Helper()
	if l := x.Segs(); !slices.Equal(l, want) {
		t.Errorf("after %v the segments are %.500v, want %.500v", what, l, want)
	}
}

// Promise 45.1.
func TestNew(t *testing.T) {
	if x := path.New(); x == nil || len(x.Segs()) != 0 {
		t.Errorf("New = %v", x)
	}
	var x *path.Path
	if x.Segs() != nil {
		t.Errorf("Segs of no path = %v", x.Segs())
	}
}

// Promises 45.1, 45.2 and 45.3.
func TestNil(t *testing.T) {
	var x *path.Path
	for _, o := range []api.Op{ints("m", 1, 1), op("h"), op("S"), op("x"), ints("S", 1), ints("m"), {}} {
		if e := x.Do(o, matrix.One()); e != api.ErrArg {
			t.Errorf("Do(%v) of no path = %d", o, e)
		}
		if p, ok, e := x.Paint(o, api.Graphics{}); len(p.Segs) != 0 || p.How != 0 || ok || e != api.ErrArg {
			t.Errorf("Paint(%v) of no path = %v, %v, %d", o, p, ok, e)
		}
	}
}

// Promise 45.1.
func TestSame(t *testing.T) {
	s := api.Seg{Kind: 3, P: at(1, 2), Q: at(3, 4), R: at(5, 6)}
	for i, change := range []func(s *api.Seg){
		func(s *api.Seg) { s.Kind++ }, func(s *api.Seg) { s.P.X++ }, func(s *api.Seg) { s.P.Y++ }, func(s *api.Seg) { s.Q.X++ }, func(s *api.Seg) { s.Q.Y++ }, func(s *api.Seg) { s.R.X++ }, func(s *api.Seg) { s.R.Y++ },
	} {
		other := s
		change(&other)
		a, b := []api.Seg{shut(), s}, []api.Seg{shut(), other}
		if path.Same(a, b) || path.Same(b, a) || !path.Same(a, slices.Clone(a)) || !path.Same(b, slices.Clone(b)) {
			t.Errorf("Same %d is wrong", i)
		}
	}
	if !path.Same(nil, []api.Seg{}) || path.Same(nil, []api.Seg{s}) || path.Same([]api.Seg{s}, []api.Seg{s, s}) || path.Same([]api.Seg{s, shut()}, []api.Seg{shut(), s}) {
		t.Error("Same of other lists is wrong")
	}
}

// Promise 45.2: what each operator appends.
func TestDo(t *testing.T) {
	for i, c := range []struct {
		o    api.Op
		m    api.Matrix
		want []api.Seg
	}{
		{ints("m", 1, 2), matrix.One(), []api.Seg{move(10000, 20000)}}, {units("m", 3, 5), turned(), []api.Seg{move(85, 206)}},
		{units("l", 3, -5), matrix.One(), []api.Seg{line(3, -5)}}, {units("l", 3, 5), turned(), []api.Seg{line(85, 206)}},
		{units("c", 1, 2, 3, 4, 5, 6), matrix.One(), []api.Seg{curve(at(1, 2), at(3, 4), at(5, 6))}}, {units("c", 1, 2, 3, 4, 5, 6), turned(), []api.Seg{curve(at(94, 202), at(88, 206), at(82, 210))}},
		{units("v", 1, 2, 3, 4), matrix.One(), []api.Seg{curve(at(7, 8), at(1, 2), at(3, 4))}}, {units("v", 1, 2, 3, 4), turned(), []api.Seg{curve(at(7, 8), at(94, 202), at(88, 206))}},
		{units("y", 1, 2, 3, 4), matrix.One(), []api.Seg{curve(at(1, 2), at(3, 4), at(3, 4))}}, {units("y", 1, 2, 3, 4), turned(), []api.Seg{curve(at(94, 202), at(88, 206), at(88, 206))}},
		{op("h"), matrix.One(), []api.Seg{shut()}}, {op("h"), turned(), []api.Seg{shut()}}, {op("W"), matrix.One(), nil}, {op("W*"), turned(), nil},
		{units("re", 1, 2, 3, 4), matrix.One(), []api.Seg{move(1, 2), line(4, 2), line(4, 6), line(1, 6), shut()}}, {units("re", 1, 2, 3, 4), turned(), []api.Seg{move(94, 202), line(94, 208), line(82, 208), line(82, 202), shut()}},
		{units("re", 5, 5, -5, -7), matrix.One(), []api.Seg{move(5, 5), line(0, 5), line(0, -2), line(5, -2), shut()}}, {ints("re", 0, 0, 0, 0), matrix.One(), []api.Seg{move(0, 0), line(0, 0), line(0, 0), line(0, 0), shut()}},
		{op("m", value.Int(1), value.Real(5)), matrix.One(), []api.Seg{move(10000, 5)}}, {units("m", most, -most), matrix.One(), []api.Seg{move(most, -most)}}, {units("re", -most, most, most, -most), matrix.One(), []api.Seg{move(-most, most), line(0, most), line(0, 0), line(-most, 0), shut()}},
		// Without a point there is nothing to transform.
		{op("h"), api.Matrix{A: most + 1}, []api.Seg{shut()}}, {op("W"), api.Matrix{F: math.MinInt64}, nil},
	} {
		x := drawn(t, units("m", 7, 8))
		if e := x.Do(c.o, c.m); e != api.OK {
			t.Errorf("Do %d (%v) = %d", i, c.o, e)
		}
		expect(t, c.o, x, append([]api.Seg{move(7, 8)}, c.want...)...)
	}
}

// Promise 45.2: m and re can begin a path, and every operator can follow another one.
func TestFirst(t *testing.T) {
	for _, c := range []struct {
		o    api.Op
		want []api.Seg
	}{
		{units("m", 1, 2), []api.Seg{move(1, 2)}}, {units("re", 1, 2, 3, 4), []api.Seg{move(1, 2), line(4, 2), line(4, 6), line(1, 6), shut()}},
	} {
		expect(t, c.o, drawn(t, c.o), c.want...)
		expect(t, c.o, drawn(t, c.o, c.o, op("h"), op("h"), units("l", 7, 8)), append(append(slices.Clone(c.want), c.want...), shut(), shut(), line(7, 8))...)
	}
}

// Promise 45.2: the current point, which v starts at.
func TestCurrentPoint(t *testing.T) {
	m, l, h, re, v := units("m", 1, 2), units("l", 3, 4), op("h"), units("re", 5, 6, 10, 10), units("v", 7, 7, 8, 9)
	for i, c := range []struct {
		list []api.Op
		want api.Point
	}{
		{[]api.Op{m}, at(1, 2)}, {[]api.Op{m, l}, at(3, 4)}, {[]api.Op{m, l, h}, at(1, 2)}, {[]api.Op{m, l, h, h}, at(1, 2)}, {[]api.Op{re}, at(5, 6)}, {[]api.Op{m, l, re}, at(5, 6)}, {[]api.Op{re, l}, at(3, 4)}, {[]api.Op{re, l, h}, at(5, 6)}, {[]api.Op{re, m}, at(1, 2)}, {[]api.Op{re, m, l, h}, at(1, 2)},
		{[]api.Op{m, units("c", 1, 1, 2, 2, 3, 3)}, at(3, 3)}, {[]api.Op{m, units("y", 1, 1, 2, 2)}, at(2, 2)}, {[]api.Op{m, v}, at(8, 9)}, {[]api.Op{m, v, h}, at(1, 2)}, {[]api.Op{m, l, op("W")}, at(3, 4)}, {[]api.Op{m, l, h, l, v, op("W*")}, at(8, 9)},
	} {
		x := drawn(t, c.list...)
		if e := x.Do(v, matrix.Move(1, 1)); e != api.OK {
			t.Errorf("Do %d = %d", i, e)
		}
		if l := x.Segs(); l[len(l)-1] != curve(c.want, at(8, 8), at(9, 10)) {
			t.Errorf("the segments of %d are %v", i, l)
		}
	}
	// The current point stays where it was on the page when the matrix changes.
	x := path.New()
	x.Do(units("re", 1, 2, 3, 4), matrix.Move(100, 100))
	x.Do(v, matrix.One())
	if l := x.Segs(); l[5] != curve(at(101, 102), at(7, 7), at(8, 9)) {
		t.Errorf("the segments are %v", l)
	}
	// Nothing of a path that was painted is left.
	x.Paint(op("n"), api.Graphics{})
	x.Do(units("m", 1, 1), matrix.One())
	x.Do(op("h"), matrix.One())
	x.Do(v, matrix.One())
	expect(t, "n", x, move(1, 1), shut(), curve(at(1, 1), at(7, 7), at(8, 9)))
}

// Promise 45.2: errors, after which the path is as before.
func TestDoErrors(t *testing.T) {
	name, far := value.Name("A"), value.Int(api.MaxInt)
	one := value.Int(1)
	great := api.Matrix{A: most + 1, D: 10000}
	for i, c := range []struct {
		o    api.Op
		m    api.Matrix
		want api.Errno
	}{
		{op(""), matrix.One(), api.ErrNone}, {op("x", one), matrix.One(), api.ErrNone}, {op("M", one, one), matrix.One(), api.ErrNone}, {op("S"), matrix.One(), api.ErrNone}, {op("n"), matrix.One(), api.ErrNone}, {op("f", one), matrix.One(), api.ErrNone}, {api.Op{Name: "b", Data: "d"}, matrix.One(), api.ErrNone}, {op("q"), matrix.One(), api.ErrNone}, {op("cm", one), great, api.ErrNone}, {op("BT"), matrix.One(), api.ErrNone},
		{op("m"), matrix.One(), api.ErrOp}, {op("m", one), matrix.One(), api.ErrOp}, {op("m", one, one, one), matrix.One(), api.ErrOp}, {op("m", one, name), matrix.One(), api.ErrOp}, {op("l", far, name), matrix.One(), api.ErrOp}, {op("l", one, sample.Array(one)), matrix.One(), api.ErrOp}, {ints("c", 1, 2, 3, 4), matrix.One(), api.ErrOp}, {ints("v", 1, 2, 3, 4, 5, 6), matrix.One(), api.ErrOp}, {op("y", one, one, one, value.Null()), matrix.One(), api.ErrOp}, {op("h", one), matrix.One(), api.ErrOp}, {op("W", one), matrix.One(), api.ErrOp}, {op("W*", name), great, api.ErrOp}, {ints("re", 1, 2, 3), matrix.One(), api.ErrOp},
		{api.Op{Name: "h", Data: "d"}, matrix.One(), api.ErrForm}, {api.Op{Name: "W", Data: "d"}, matrix.One(), api.ErrForm}, {api.Op{Name: "l", Args: []api.Object{far, far}, Data: "d"}, great, api.ErrForm},
		{op("l", far, one), matrix.One(), api.ErrRange}, {op("l", one, far), matrix.One(), api.ErrRange}, {op("m", value.Int(107375), one), api.Matrix{}, api.ErrRange}, {units("m", 0, most+1), api.Matrix{}, api.ErrRange}, {units("c", 1, 1, 1, 1, 1, -most-1), api.Matrix{}, api.ErrRange}, {op("v", one, one, value.Real(math.MinInt64), one), api.Matrix{}, api.ErrRange}, {units("y", most+1, 0, 0, 0), api.Matrix{}, api.ErrRange},
		{units("re", most, 0, 1, 0), api.Matrix{}, api.ErrRange}, {units("re", 0, most, 0, 1), api.Matrix{}, api.ErrRange}, {units("re", -most, 0, -1, 0), api.Matrix{}, api.ErrRange}, {units("re", 0, -1, 0, -most), api.Matrix{}, api.ErrRange}, {units("re", 0, 0, 0, most+1), api.Matrix{}, api.ErrRange}, {units("re", -1, 0, most+1, 0), api.Matrix{}, api.ErrRange},
		{units("m", most, 0), matrix.Move(1, 0), api.ErrRange}, {units("l", 0, -most), matrix.Move(0, -1), api.ErrRange}, {units("m", 0, 0), great, api.ErrRange}, {units("l", 0, 0), api.Matrix{F: -most - 1}, api.ErrRange}, {units("c", 0, 0, 0, 0, most, 0), matrix.Move(1, 0), api.ErrRange}, {units("c", most, 0, 0, 0, 0, 0), matrix.Move(1, 0), api.ErrRange}, {units("v", 0, 0, 0, most), matrix.Move(0, 1), api.ErrRange}, {units("y", most, 0, 0, 0), matrix.Move(1, 0), api.ErrRange}, {units("y", 0, 0, 0, -most), matrix.Move(0, -1), api.ErrRange}, {units("re", 0, 0, most, 0), matrix.Move(1, 0), api.ErrRange}, {units("re", 0, 0, 0, most), matrix.Move(0, 1), api.ErrRange}, {units("re", 0, 0, 0, 0), great, api.ErrRange},
	} {
		x, want := full(t, 3)
		if e := x.Do(c.o, c.m); e != c.want {
			t.Errorf("Do %d (%v) = %d, want %d", i, c.o, e, c.want)
		}
		expect(t, c.o, x, want...)
		if x.Do(units("v", 0, 0, 0, 0), matrix.One()); x.Segs()[3].P != want[2].R {
			t.Errorf("after %v the current point is not where it was", c.o)
		}
		if p, ok, e := x.Paint(op("S"), api.Graphics{}); p.How != api.PaintStroke || !ok || e != api.OK {
			t.Errorf("after %v what is painted is %v, %v, %d", c.o, p, ok, e)
		}
		// The same as the first operator of a path.
		want = nil
		wantErr := c.want
		if c.want == api.ErrRange && c.o.Name != "m" && c.o.Name != "re" {
			wantErr = api.ErrState
		}
		if e := x.Do(c.o, c.m); e != wantErr || len(x.Segs()) != 0 {
			t.Errorf("Do %d (%v) of an empty path = %d, want %d, and the segments are %v", i, c.o, e, wantErr, x.Segs())
		}
	}
}

// Promise 45.2: what can't be the first operator.
func TestDoState(t *testing.T) {
	for _, o := range []api.Op{ints("l", 1, 1), ints("c", 1, 1, 1, 1, 1, 1), ints("v", 1, 1, 1, 1), ints("y", 1, 1, 1, 1), op("h"), op("W"), op("W*"), ints("l", api.MaxInt, 0)} {
		for _, m := range []api.Matrix{matrix.One(), {A: most + 1}} {
			x := path.New()
			if e := x.Do(o, m); e != api.ErrState || len(x.Segs()) != 0 {
				t.Errorf("Do(%v) of an empty path = %d", o, e)
			}
			x.Do(ints("m", 1, 1), matrix.One())
			if p, _, e := x.Paint(op("S"), api.Graphics{}); p.How != api.PaintStroke || e != api.OK {
				t.Errorf("after %v what is painted is %v, %d", o, p, e)
			}
			if e := x.Do(o, m); e != api.ErrState || len(x.Segs()) != 0 {
				t.Errorf("Do(%v) of a path that was painted = %d", o, e)
			}
		}
	}
}

// Promise 45.2: as many segments as can be.
func TestDoMany(t *testing.T) {
	for _, c := range []struct {
		o    api.Op
		more int
	}{
		{units("m", 1, 2), 1}, {units("l", 1, 2), 1}, {units("c", 1, 2, 3, 4, 5, 6), 1}, {units("v", 1, 2, 3, 4), 1}, {units("y", 1, 2, 3, 4), 1}, {op("h"), 1}, {units("re", 1, 2, 3, 4), 5}, {op("W"), 0}, {op("W*"), 0},
	} {
		x, want := full(t, 8192-c.more)
		if e := x.Do(c.o, matrix.One()); e != api.OK || len(x.Segs()) != 8192 || !path.Same(x.Segs()[:len(want)], want) {
			t.Errorf("%v up to 8192 segments: %d", c.o, e)
		}
		if c.more == 0 {
			continue
		}
		x, want = full(t, 8192-c.more+1)
		if e := x.Do(c.o, matrix.One()); e != api.ErrMany {
			t.Errorf("%v up to more than 8192 segments: %d", c.o, e)
		}
		expect(t, c.o, x, want...)
	}
	x, _ := full(t, 8192)
	for _, o := range []api.Op{ints("l", 0, api.MaxInt), units("re", most, 0, 1, 0), units("m", 0, most+1)} {
		if e := x.Do(o, matrix.One()); e != api.ErrRange {
			t.Errorf("Do(%v) of a full path = %d", o, e)
		}
	}
	if e := x.Do(units("l", most, 0), matrix.Move(1, 0)); e != api.ErrRange {
		t.Errorf("l of a full path = %d", e)
	}
}

// graphics is a state with two colors.
func graphics() api.Graphics {
	return api.Graphics{Ctm: api.Matrix{A: most + 1}, Width: -1, Fill: api.Color{Space: api.SpaceRGB, A: 1, B: 2, C: 3}, Stroke: api.Color{Space: api.SpaceCMYK, A: 4, B: 5, C: 6, D: -7}}
}

// ways returns what each painting operator does: how it paints, and whether it closes the path.
func ways() map[string]struct {
	how  int
	shut bool
} {
	return map[string]struct {
		how  int
		shut bool
	}{
		"S": {4, false}, "s": {4, true}, "f": {1, false}, "F": {1, false}, "f*": {3, false}, "B": {5, false}, "B*": {7, false}, "b": {5, true}, "b*": {7, true}, "n": {0, false},
	}
}

// Promise 45.3: every operator, with and without clipping.
func TestPaint(t *testing.T) {
	for name, way := range ways() {
		for clip, ops := range map[string][]api.Op{"": nil, "W": {op("W")}, "W*": {op("W*")}, "W twice": {op("W"), op("W*")}, "W before the end": {op("W"), units("l", 5, 6)}} {
			x := drawn(t, append([]api.Op{units("m", 1, 2), units("l", 3, 4)}, ops...)...)
			want := api.Paint{How: way.how, Segs: x.Segs(), Fill: graphics().Fill, Stroke: graphics().Stroke}
			if clip != "" {
				want.How += 8
			}
			if way.shut {
				want.Segs = append(want.Segs, shut())
			}
			if want.How == 0 {
				want = api.Paint{}
			}
			p, ok, e := x.Paint(op(name), graphics())
			if p.How != want.How || !path.Same(p.Segs, want.Segs) || p.Fill != want.Fill || p.Stroke != want.Stroke || ok != (want.How != 0) || e != api.OK {
				t.Errorf("Paint(%s) with clip %q = %v, %v, %d, want %v", name, clip, p, ok, e, want)
			}
			expect(t, name, x)
			// The next path is not clipped to.
			x.Do(units("m", 1, 2), matrix.One())
			if p, ok, e := x.Paint(op("f"), api.Graphics{}); p.How != 1 || len(p.Segs) != 1 || !ok || e != api.OK {
				t.Errorf("after %s with clip %q, f paints %v, %v, %d", name, clip, p, ok, e)
			}
		}
	}
}

// Promise 45.3: an empty path, of which there is nothing to close.
func TestPaintEmpty(t *testing.T) {
	for name := range ways() {
		for i, x := range []*path.Path{path.New(), drawn(t, units("m", 1, 2), op("W"))} {
			if i > 0 {
				x.Paint(op("n"), api.Graphics{})
			}
			p, ok, e := x.Paint(op(name), graphics())
			if p.How != 0 || len(p.Segs) != 0 || p.Fill != (api.Color{}) || p.Stroke != (api.Color{}) || ok || e != api.OK {
				t.Errorf("Paint(%s) of an empty path = %v, %v, %d", name, p, ok, e)
			}
			expect(t, name, x)
			if e := x.Do(op("h"), matrix.One()); e != api.ErrState {
				t.Errorf("h after %s of an empty path = %d", name, e)
			}
		}
	}
}

// Promise 45.3, by the example of the chapter, and a path that is closed already.
func TestPaintClosed(t *testing.T) {
	x := drawn(t, ints("m", 1, 1), ints("l", 2, 1))
	want := []api.Seg{move(10000, 10000), line(20000, 10000), shut()}
	if p, ok, e := x.Paint(op("s"), api.Graphics{}); p.How != api.PaintStroke || !path.Same(p.Segs, want) || !ok || e != api.OK {
		t.Errorf("s paints %v, %v, %d", p, ok, e)
	}
	x = drawn(t, ints("m", 1, 1), ints("l", 2, 1), op("h"))
	if p, ok, e := x.Paint(op("b*"), api.Graphics{}); p.How != 7 || !path.Same(p.Segs, append(want, shut())) || !ok || e != api.OK {
		t.Errorf("b* paints %v, %v, %d", p, ok, e)
	}
}

// Promise 45.3: a full path is closed nevertheless.
func TestPaintFull(t *testing.T) {
	for name, way := range ways() {
		x, want := full(t, 8192)
		if e := x.Do(op("W"), matrix.One()); e != api.OK {
			t.Errorf("W = %d", e)
		}
		if way.shut {
			want = append(want, shut())
		}
		if p, ok, e := x.Paint(op(name), api.Graphics{}); p.How != way.how+8 || !path.Same(p.Segs, want) || !ok || e != api.OK {
			t.Errorf("Paint(%s) of %d segments = %d of %d, %v, %d", name, len(want), p.How, len(p.Segs), ok, e)
		}
		expect(t, name, x)
	}
}

// Promise 45.3: errors, after which the path is as before.
func TestPaintErrors(t *testing.T) {
	one := value.Int(1)
	for i, c := range []struct {
		o    api.Op
		want api.Errno
	}{
		{op(""), api.ErrNone}, {op("x"), api.ErrNone}, {op("?"), api.ErrNone}, {op("m", one, one), api.ErrNone}, {op("h"), api.ErrNone}, {op("W"), api.ErrNone}, {op("re", one), api.ErrNone}, {op("N"), api.ErrNone}, {op("F*"), api.ErrNone}, {op("S*"), api.ErrNone}, {api.Op{Name: "q", Data: "d"}, api.ErrNone}, {op("sh", value.Name("A")), api.ErrNone}, {op("Do", value.Name("A")), api.ErrNone}, {op("BI", sample.Dict("")), api.ErrNone},
		{op("S", one), api.ErrOp}, {op("n", one), api.ErrOp}, {op("b*", one), api.ErrOp}, {op("s", value.Null()), api.ErrOp}, {api.Op{Name: "f", Args: []api.Object{one}, Data: "d"}, api.ErrOp}, {api.Op{Name: "n", Data: "d"}, api.ErrForm}, {api.Op{Name: "b", Data: "d"}, api.ErrForm}, {api.Op{Name: "B*", Data: "d"}, api.ErrForm},
	} {
		x := drawn(t, units("m", 1, 2), units("l", 3, 4), op("W"))
		if p, ok, e := x.Paint(c.o, graphics()); p.How != 0 || len(p.Segs) != 0 || p.Fill != (api.Color{}) || p.Stroke != (api.Color{}) || ok || e != c.want {
			t.Errorf("Paint %d (%v) = %v, %v, %d, want %d", i, c.o, p, ok, e, c.want)
		}
		expect(t, c.o, x, move(1, 2), line(3, 4))
		if p, ok, e := x.Paint(op("n"), graphics()); p.How != 8 || len(p.Segs) != 2 || !ok || e != api.OK {
			t.Errorf("after %v, n paints %v, %v, %d", c.o, p, ok, e)
		}
		if p, ok, e := x.Paint(c.o, graphics()); len(p.Segs) != 0 || ok || e != c.want {
			t.Errorf("Paint %d (%v) of an empty path = %v, %v, %d, want %d", i, c.o, p, ok, e, c.want)
		}
	}
}

// Promise 45.4.
func TestBox(t *testing.T) {
	odd := api.Seg{Kind: api.SegLine, P: at(-99, -99), Q: at(99, 99), R: at(1, 1)}
	for i, c := range []struct {
		l    []api.Seg
		want api.Rect
		ok   bool
	}{
		{nil, api.Rect{}, false}, {[]api.Seg{shut(), shut()}, api.Rect{}, false}, {[]api.Seg{{Kind: api.SegClose, P: at(1, 1), Q: at(1, 1), R: at(1, 1)}}, api.Rect{}, false}, {[]api.Seg{{Kind: 0, R: at(1, 1)}, {Kind: 5, P: at(1, 1)}, {Kind: -1, Q: at(1, 1)}}, api.Rect{}, false},
		{[]api.Seg{move(0, 0)}, api.Rect{}, true}, {[]api.Seg{move(3, -4)}, api.Rect{X0: 3, Y0: -4, X1: 3, Y1: -4}, true}, {[]api.Seg{line(3, 4)}, api.Rect{X0: 3, Y0: 4, X1: 3, Y1: 4}, true}, {[]api.Seg{shut(), line(3, 4), shut()}, api.Rect{X0: 3, Y0: 4, X1: 3, Y1: 4}, true},
		{[]api.Seg{move(1, 9), line(5, 2)}, api.Rect{X0: 1, Y0: 2, X1: 5, Y1: 9}, true}, {[]api.Seg{move(5, 2), line(1, 9)}, api.Rect{X0: 1, Y0: 2, X1: 5, Y1: 9}, true},
		{[]api.Seg{curve(at(1, 2), at(-3, 4), at(5, -6))}, api.Rect{X0: -3, Y0: -6, X1: 5, Y1: 4}, true}, {[]api.Seg{curve(at(9, 0), at(0, 9), at(1, 1))}, api.Rect{X1: 9, Y1: 9}, true}, {[]api.Seg{curve(at(1, 1), at(9, 9), at(1, 1)), move(10, 0)}, api.Rect{X0: 1, X1: 10, Y1: 9}, true},
		{[]api.Seg{odd, {Kind: api.SegMove, P: at(-99, -99), Q: at(99, 99), R: at(2, 0)}}, api.Rect{X0: 1, X1: 2, Y1: 1}, true},
		{[]api.Seg{line(math.MinInt64, 5), line(7, math.MaxInt64)}, api.Rect{X0: math.MinInt64, Y0: 5, X1: 7, Y1: math.MaxInt64}, true},
	} {
		if r, ok := path.Box(c.l); r != c.want || ok != c.ok {
			t.Errorf("Box %d = %v, %v, want %v, %v", i, r, ok, c.want, c.ok)
		}
	}
}

// Promise 45.5: re appends the same segments as m, three l and h.
func TestRectangle(t *testing.T) {
	for _, m := range []api.Matrix{matrix.One(), turned(), {A: 12345, B: -777, C: 4999, D: 5001, E: -3, F: 9}} {
		for _, n := range [][4]int64{{0, 0, 1, 1}, {5, -7, 123456, 99}, {-1, -1, -4999, 5000}, {most / 4, 0, 1, -1}} {
			a, b := path.New(), path.New()
			far, high := n[0]+n[2], n[1]+n[3]
			e := a.Do(units("re", n[:]...), m)
			for _, o := range []api.Op{units("m", n[0], n[1]), units("l", far, n[1]), units("l", far, high), units("l", n[0], high), op("h")} {
				b.Do(o, m)
			}
			if e != api.OK || len(b.Segs()) != 5 || !path.Same(a.Segs(), b.Segs()) {
				t.Errorf("re of %v under %v: %v, %d, want %v", n, m, a.Segs(), e, b.Segs())
			}
		}
	}
}

// Results share no memory with the path, and not with each other.
func TestMemory(t *testing.T) {
	x := drawn(t, units("m", 1, 2), units("l", 3, 4))
	l := x.Segs()
	l[0].R.X = 99
	l = append(l[:1], shut())
	expect(t, "a change", x, move(1, 2), line(3, 4))
	p, _, _ := x.Paint(op("S"), api.Graphics{})
	x.Do(units("m", 5, 6), matrix.One())
	x.Do(units("l", 7, 8), matrix.One())
	q, _, _ := x.Paint(op("S"), api.Graphics{})
	if !path.Same(p.Segs, []api.Seg{move(1, 2), line(3, 4)}) || !path.Same(q.Segs, []api.Seg{move(5, 6), line(7, 8)}) {
		t.Errorf("what is painted is %v and %v", p, q)
	}
	args := units("m", 1, 2)
	x.Do(args, matrix.One())
	args.Args[0].N = 9
	expect(t, "another change", x, move(1, 2))
}
