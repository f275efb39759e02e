package path_test

import (
	"slices"
	"strings"
	"testing"

	"foliant/api"
	"foliant/fix"
	"foliant/matrix"
	"foliant/ops"
	"foliant/path"
	"foliant/sample"
	"foliant/value"
)

// model does what a path does, by the words of the chapter.
type model struct {
	segs []api.Seg
	clip bool
}

// current returns the current point.
func (x *model) current() api.Point {
	last := x.segs[len(x.segs)-1]
	if last.Kind != api.SegClose {
		return last.R
	}
	for _, s := range slices.Backward(x.segs) {
		if s.Kind == api.SegMove {
			return s.R
		}
	}
	panic("a path without a start")
}

// points returns the points at some numbers, transformed.
func points(m api.Matrix, n ...int64) ([]api.Point, api.Errno) {
	var l []api.Point
	for i := 0; i < len(n); i += 2 {
		p, e := matrix.Apply(m, at(n[i], n[i+1]))
		if e != api.OK {
			return nil, e
		}
		l = append(l, p)
	}
	return l, api.OK
}

// do does what Do does.
func (x *model) do(o api.Op, m api.Matrix) api.Errno {
	if !slices.Contains(strings.Fields("m l c v y h re W W*"), o.Name) {
		return api.ErrNone
	}
	if e := ops.Check(o); e != api.OK {
		return e
	}
	if len(x.segs) == 0 && slices.Contains(strings.Fields("l c v y h W W*"), o.Name) {
		return api.ErrState
	}
	n, e := ops.Nums(o)
	if e != api.OK {
		return e
	}
	if o.Name == "re" {
		far, e1 := fix.Sum(n[0], n[2])
		high, e2 := fix.Sum(n[1], n[3])
		if e1 != api.OK || e2 != api.OK {
			return api.ErrRange
		}
		n = []int64{n[0], n[1], far, n[1], far, high, n[0], high}
	}
	p, e := points(m, n...)
	if e != api.OK {
		return e
	}
	var more []api.Seg
	switch o.Name {
	case "m":
		more = []api.Seg{{Kind: 1, R: p[0]}}
	case "l":
		more = []api.Seg{{Kind: 2, R: p[0]}}
	case "c":
		more = []api.Seg{{Kind: 3, P: p[0], Q: p[1], R: p[2]}}
	case "v":
		more = []api.Seg{{Kind: 3, P: x.current(), Q: p[0], R: p[1]}}
	case "y":
		more = []api.Seg{{Kind: 3, P: p[0], Q: p[1], R: p[1]}}
	case "h":
		more = []api.Seg{{Kind: 4}}
	case "re":
		more = []api.Seg{{Kind: 1, R: p[0]}, {Kind: 2, R: p[1]}, {Kind: 2, R: p[2]}, {Kind: 2, R: p[3]}, {Kind: 4}}
	default:
		x.clip = true
	}
	if len(x.segs)+len(more) > 8192 {
		return api.ErrMany
	}
	x.segs = append(x.segs, more...)
	return api.OK
}

// paint does what Paint does.
func (x *model) paint(o api.Op, g api.Graphics) (api.Paint, bool, api.Errno) {
	if !slices.Contains(strings.Fields("S s f F f* B B* b b* n"), o.Name) {
		return api.Paint{}, false, api.ErrNone
	}
	if e := ops.Check(o); e != api.OK {
		return api.Paint{}, false, e
	}
	if strings.HasPrefix(o.Name, "s") || strings.HasPrefix(o.Name, "b") {
		if len(x.segs) > 0 {
			x.segs = append(x.segs, shut())
		}
	}
	p := api.Paint{How: map[string]int{"S": 4, "s": 4, "f": 1, "F": 1, "f*": 3, "B": 5, "b": 5, "B*": 7, "b*": 7}[o.Name], Segs: x.segs, Fill: g.Fill, Stroke: g.Stroke}
	if x.clip {
		p.How += 8
	}
	*x = model{}
	if len(p.Segs) > 0 && p.How != 0 {
		return p, true, api.OK
	}
	return api.Paint{}, false, api.OK
}

// box does what Box does.
func box(l []api.Seg) (api.Rect, bool) {
	var xs, ys []int64
	for _, s := range l {
		var own []api.Point
		if s.Kind == 3 {
			own = []api.Point{s.P, s.Q}
		}
		if s.Kind >= 1 && s.Kind <= 3 {
			own = append(own, s.R)
		}
		for _, p := range own {
			xs, ys = append(xs, p.X), append(ys, p.Y)
		}
	}
	if len(xs) == 0 {
		return api.Rect{}, false
	}
	return api.Rect{X0: slices.Min(xs), Y0: slices.Min(ys), X1: slices.Max(xs), Y1: slices.Max(ys)}, true
}

// mixer makes choices that look irregular and are always the same.
type mixer uint32

// pick chooses a number from 0 to below, not included.
func (x *mixer) pick(below int) int {
	*x = *x*1664525 + 1013904223
	return int(*x>>8) % below
}

// units returns a number of units, which is rarely great.
func (x *mixer) units() int64 {
	if x.pick(40) == 0 {
		return []int64{most, -most, most - 1, most / 2, -most / 2}[x.pick(5)]
	}
	return int64(x.pick(40000) - 20000)
}

// operator returns an operator, which is rarely wrong.
func (x *mixer) operator() api.Op {
	names := strings.Fields("m m m l l l l c c v v v y h re re W W* S s f F f* B B* b b* n n q x d")
	o := op(names[x.pick(len(names))])
	for range ops.Takes(o.Name) {
		o.Args = append(o.Args, value.Real(x.units()))
	}
	switch x.pick(60) {
	case 0:
		o.Args = append(o.Args, value.Int(1))
	case 1:
		o.Data = "d"
	case 2:
		if len(o.Args) > 0 {
			o.Args[x.pick(len(o.Args))] = []api.Object{value.Int(api.MaxInt), value.Real(most + 1), value.Name("A"), sample.Array()}[x.pick(4)]
		}
	}
	return o
}

// matrix returns a matrix, which is rarely out of range.
func (x *mixer) matrix() api.Matrix {
	m := matrix.One()
	if x.pick(2) == 0 {
		m = api.Matrix{A: x.units(), B: x.units(), C: x.units(), D: x.units(), E: x.units(), F: x.units()}
	}
	if x.pick(60) == 0 {
		m.E = most + 1
	}
	return m
}

// Promises 45.2 to 45.5, by the words of the chapter.
func TestByTheWords(t *testing.T) {
	x, found := mixer(45), map[api.Errno]int{}
	painted := 0
	for range 400 {
		got, want := path.New(), &model{}
		for range 200 {
			o, m := x.operator(), x.matrix()
			e, wantErr := got.Do(o, m), want.do(o, m)
			if e != wantErr || !slices.Equal(got.Segs(), want.segs) {
				t.Fatalf("Do(%v, %v) = %d, want %d, and the segments are %v, want %v", o, m, e, wantErr, got.Segs(), want.segs)
			}
			found[e]++
			if e != api.ErrNone {
				continue
			}
			g := api.Graphics{Fill: api.Color{A: x.units()}, Stroke: api.Color{B: x.units()}}
			p, ok, e := got.Paint(o, g)
			wantPaint, wantOk, wantErr := want.paint(o, g)
			if p.How != wantPaint.How || !slices.Equal(p.Segs, wantPaint.Segs) || p.Fill != wantPaint.Fill || p.Stroke != wantPaint.Stroke || ok != wantOk || e != wantErr || !slices.Equal(got.Segs(), want.segs) {
				t.Fatalf("Paint(%v) = %v, %v, %d, want %v, %v, %d", o, p, ok, e, wantPaint, wantOk, wantErr)
			}
			r, ok := path.Box(p.Segs)
			if wantBox, wantOk := box(p.Segs); r != wantBox || ok != wantOk || ok != (len(p.Segs) > 0) {
				t.Fatalf("Box(%v) = %v, %v, want %v, %v", p.Segs, r, ok, wantBox, wantOk)
			}
			if ok {
				painted++
			}
			found[e]++
		}
	}
	for _, e := range []api.Errno{api.OK, api.ErrNone, api.ErrOp, api.ErrForm, api.ErrState, api.ErrRange} {
		if found[e] < 300 {
			t.Errorf("the errors are %v", found)
		}
	}
	if painted < 3000 {
		t.Errorf("%d paths were painted", painted)
	}
}
