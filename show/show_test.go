package show_test

import (
	"fmt"
	"math"
	"slices"
	"strings"
	"testing"
	"time"

	"foliant/api"
	"foliant/matrix"
	"foliant/sample"
	"foliant/show"
	"foliant/state"
	"foliant/value"
)

const most = api.MaxFix

// brief shows the beginning of anything.
func brief(x any) string { return fmt.Sprintf("%.500s", fmt.Sprint(x)) }

// op returns an operator without data.
func op(name string, args ...api.Object) api.Op { return api.Op{Name: name, Args: args} }

// ints returns an operator with integers.
func ints(name string, list ...int64) api.Op {
	o := op(name)
	for _, n := range list {
		o.Args = append(o.Args, value.Int(n))
	}
	return o
}

// units returns an operator with numbers of units.
func units(name string, list ...int64) api.Op {
	o := op(name)
	for _, n := range list {
		o.Args = append(o.Args, value.Real(n))
	}
	return o
}

// tj, quote and quotes return operators with a string.
func tj(s string) api.Op    { return op("Tj", value.String(s)) }
func quote(s string) api.Op { return op("'", value.String(s)) }
func quotes(word, char int64, s string) api.Op {
	return op("\"", value.Real(word), value.Real(char), value.String(s))
}

// list returns the operator TJ.
func list(kids ...api.Object) api.Op { return op("TJ", sample.Array(kids...)) }

// graphics returns an initial state with a size of 10 and a change.
func graphics(change func(g *api.Graphics)) api.Graphics {
	g := state.First(matrix.One())
	g.Text.Size, g.Text.Font, g.Text.Mode = 10*api.One, "F", 3
	change(&g)
	return g
}

// plain is such a state without a change.
func plain() api.Graphics { return graphics(func(*api.Graphics) {}) }

// simple is a font whose codes have one byte: A is 500 wide and B 600, the space 250, and all others 1000.
func simple() api.Font {
	f := api.Font{Name: "Helvetica", First: 32, Widths: slices.Repeat([]int64{1000}, 40), Missing: 1000}
	f.Widths[0], f.Widths['A'-32], f.Widths['B'-32] = 250, 500, 600
	return f
}

// broad is a font whose codes have two bytes.
func broad() api.Font {
	return api.Font{Name: "Song", Wide: true, First: 32, Widths: []int64{250, 500}, Missing: 1000, Maps: []api.Map{{Code: 32, S: " "}, {Code: 300, S: "é"}}}
}

// on returns a machine that is on, after some operators.
func on(t *testing.T, l ...api.Op) *show.Machine {
	t.Helper()
	x := show.New()
	for _, o := range append([]api.Op{op("BT")}, l...) {
		if _, e := x.Do(o, plain(), simple()); e != api.OK {
			t.Fatalf("Do(%v) = %d", o, e)
		}
	}
	return x
}

// spots returns where glyphs begin and end.
func spots(l []api.Glyph) [][2]api.Point {
	var list [][2]api.Point
	for _, g := range l {
		list = append(list, [2]api.Point{g.From, g.To})
	}
	return list
}

// line returns spots on the line at height y, from pairs of coordinates.
func line(y int64, xs ...int64) [][2]api.Point {
	var list [][2]api.Point
	for i := 0; i < len(xs); i += 2 {
		list = append(list, [2]api.Point{{X: xs[i], Y: y}, {X: xs[i+1], Y: y}})
	}
	return list
}

// Promise 48.1.
func TestNew(t *testing.T) {
	if x := show.New(); x == nil || x.On() || x.Matrix() != matrix.One() {
		t.Errorf("New = %v", x)
	}
	var x *show.Machine
	if x.On() || x.Matrix() != (api.Matrix{A: 10000, D: 10000}) {
		t.Errorf("no machine is on: %v, and its matrix is %v", x.On(), x.Matrix())
	}
	for _, o := range []api.Op{op("BT"), op("ET"), op("x"), op("BT", value.Int(1)), tj("A"), {}} {
		if l, e := x.Do(o, plain(), simple()); l != nil || e != api.ErrArg {
			t.Errorf("Do(%v) of no machine = %v, %d", o, l, e)
		}
	}
}

// Promise 48.2: turning on and off.
func TestOnAndOff(t *testing.T) {
	x := show.New()
	far := matrix.Move(7, 8)
	for i, c := range []struct {
		o    api.Op
		err  api.Errno
		on   bool
		want api.Matrix
	}{
		{op("ET"), api.ErrState, false, matrix.One()}, {ints("Td", 1, 1), api.ErrState, false, matrix.One()}, {ints("TD", 1, 1), api.ErrState, false, matrix.One()}, {ints("Tm", 1, 0, 0, 1, 0, 0), api.ErrState, false, matrix.One()}, {op("T*"), api.ErrState, false, matrix.One()}, {tj("A"), api.ErrState, false, matrix.One()}, {quote("A"), api.ErrState, false, matrix.One()}, {quotes(1, 1, "A"), api.ErrState, false, matrix.One()}, {list(), api.ErrState, false, matrix.One()},
		{op("BT"), api.OK, true, matrix.One()}, {op("BT"), api.ErrState, true, matrix.One()}, {units("Td", 7, 8), api.OK, true, far}, {op("BT"), api.ErrState, true, far}, {op("ET"), api.OK, false, matrix.One()}, {op("ET"), api.ErrState, false, matrix.One()}, {op("BT"), api.OK, true, matrix.One()}, {units("Td", 7, 8), api.OK, true, far}, {op("ET"), api.OK, false, matrix.One()}, {op("BT"), api.OK, true, matrix.One()}, {units("Td", 7, 8), api.OK, true, far},
	} {
		if l, e := x.Do(c.o, plain(), simple()); len(l) != 0 || e != c.err || x.On() != c.on || x.Matrix() != c.want {
			t.Errorf("step %d (%v): %v, %d, on: %v, matrix: %v", i, c.o, l, e, x.On(), x.Matrix())
		}
	}
}

// Promise 48.2: the operators that move. Neither the state nor the font matters to most of them.
func TestMove(t *testing.T) {
	turned := api.Matrix{A: 0, B: 2 * api.One, C: -3 * api.One, D: 0, E: 5, F: 6}
	leading := graphics(func(g *api.Graphics) { g.Text.Leading = 120000 })
	unusable := graphics(func(g *api.Graphics) { g.Text.Char = most + 1 })
	tm := units("Tm", turned.A, turned.B, turned.C, turned.D, turned.E, turned.F)
	for i, c := range []struct {
		l    []api.Op
		g    api.Graphics
		want api.Matrix
	}{
		{[]api.Op{ints("Td", 1, 2)}, unusable, matrix.Move(10000, 20000)}, {[]api.Op{units("TD", -1, 2)}, unusable, matrix.Move(-1, 2)}, {[]api.Op{op("TD", value.Int(1), value.Real(1))}, plain(), matrix.Move(10000, 1)}, {[]api.Op{units("Td", 1, 2), units("Td", 10, 20), units("TD", 100, 200)}, unusable, matrix.Move(111, 222)},
		{[]api.Op{tm}, unusable, turned}, {[]api.Op{units("Td", 1, 2), tm}, unusable, turned}, {[]api.Op{tm, units("Td", 100, 1000)}, unusable, api.Matrix{B: 20000, C: -30000, E: 5 - 3000, F: 6 + 200}}, {[]api.Op{ints("Tm", 1, 2, 3, 4, 5, 6)}, plain(), api.Matrix{A: 10000, B: 20000, C: 30000, D: 40000, E: 50000, F: 60000}}, {[]api.Op{units("Tm", 0, 0, 0, 0, 0, 0), units("Td", 5, 5)}, plain(), api.Matrix{}},
		{[]api.Op{op("T*")}, leading, matrix.Move(0, -120000)}, {[]api.Op{op("T*"), op("T*")}, leading, matrix.Move(0, -240000)}, {[]api.Op{op("T*")}, plain(), matrix.One()}, {[]api.Op{tm, op("T*")}, leading, api.Matrix{B: 20000, C: -30000, E: 5 + 360000, F: 6}}, {[]api.Op{op("T*")}, graphics(func(g *api.Graphics) { g.Text.Leading = -5 }), matrix.Move(0, 5)}, {[]api.Op{units("Td", 5, 0), tj("AB"), op("T*")}, leading, matrix.Move(5, -120000)}, {[]api.Op{units("Td", 5, 0), tj("AB"), units("Td", 1, 1)}, leading, matrix.Move(6, 1)}, {[]api.Op{list(value.Int(-1000)), units("Td", 1, 1)}, leading, matrix.Move(1, 1)},
		// The leading is not set by TD.
		{[]api.Op{units("TD", 0, -50), op("T*")}, leading, matrix.Move(0, -50-120000)},
	} {
		x := on(t)
		for _, o := range c.l {
			f := api.Font{}
			if o.Name == "Tj" {
				f = simple()
			}
			if _, e := x.Do(o, c.g, f); e != api.OK {
				t.Errorf("Do(%v) of %d = %d", o, i, e)
			}
		}
		if x.Matrix() != c.want || !x.On() {
			t.Errorf("the matrix of %d is %v, want %v", i, x.Matrix(), c.want)
		}
	}
}

// Terms of the chapter: what a glyph has.
func TestGlyph(t *testing.T) {
	g := graphics(func(g *api.Graphics) { g.Text.Rise = 7 })
	want := api.Glyph{Code: 65, S: "A", From: api.Point{Y: 7}, To: api.Point{X: 50000, Y: 7}, High: 100000, Font: "F", Mode: 3}
	for i, c := range []struct {
		g    api.Graphics
		m    api.Matrix
		f    api.Font
		s    string
		want api.Glyph
		next api.Matrix
	}{
		{g, matrix.One(), simple(), "A", want, matrix.Move(50000, 0)},
		{plain(), matrix.Move(5, 6), simple(), "A", api.Glyph{Code: 65, S: "A", From: api.Point{X: 5, Y: 6}, To: api.Point{X: 50005, Y: 6}, High: 100000, Font: "F", Mode: 3}, matrix.Move(50005, 6)},
		{graphics(func(g *api.Graphics) { g.Ctm = matrix.Move(100, 200) }), matrix.Move(5, 6), simple(), "A", api.Glyph{Code: 65, S: "A", From: api.Point{X: 105, Y: 206}, To: api.Point{X: 50105, Y: 206}, High: 100000, Font: "F", Mode: 3}, matrix.Move(50005, 6)},
		// The text matrix is applied first.
		{graphics(func(g *api.Graphics) { g.Ctm = matrix.Scale(20000, 30000) }), matrix.Move(5, 6), simple(), "A", api.Glyph{Code: 65, S: "A", From: api.Point{X: 10, Y: 18}, To: api.Point{X: 100010, Y: 18}, High: 300000, Font: "F", Mode: 3}, matrix.Move(50005, 6)},
		{graphics(func(g *api.Graphics) { g.Ctm = matrix.Move(5, 6) }), api.Matrix{B: 20000, C: -30000, E: 1, F: 2}, simple(), "A", api.Glyph{Code: 65, S: "A", From: api.Point{X: 6, Y: 8}, To: api.Point{X: 6, Y: 100008}, High: 300000, Font: "F", Mode: 3}, api.Matrix{B: 20000, C: -30000, E: 1, F: 100002}},
		{graphics(func(g *api.Graphics) { g.Text.Rise = 7; g.Ctm = api.Matrix{B: 20000, C: -30000} }), matrix.One(), simple(), "A", api.Glyph{Code: 65, S: "A", From: api.Point{X: -21}, To: api.Point{X: -21, Y: 100000}, High: 300000, Font: "F", Mode: 3}, matrix.Move(50000, 0)},
		{graphics(func(g *api.Graphics) { g.Text.Size = -100000 }), matrix.One(), simple(), "A", api.Glyph{Code: 65, S: "A", To: api.Point{X: -50000}, High: 100000, Font: "F", Mode: 3}, matrix.Move(-50000, 0)},
		{graphics(func(g *api.Graphics) { g.Text.Size = 0 }), matrix.One(), simple(), "A", api.Glyph{Code: 65, S: "A", Font: "F", Mode: 3}, matrix.One()},
		{graphics(func(g *api.Graphics) { g.Ctm = api.Matrix{C: 30000, D: 40000} }), matrix.One(), simple(), "A", api.Glyph{Code: 65, S: "A", High: 500000, Font: "F", Mode: 3}, matrix.Move(50000, 0)},
		{graphics(func(g *api.Graphics) { g.Text.Font, g.Text.Mode = "", -7 }), matrix.One(), simple(), "\x07", api.Glyph{Code: 7, To: api.Point{X: 100000}, High: 100000, Mode: -7}, matrix.Move(100000, 0)},
		{plain(), matrix.One(), broad(), "\x01\x2C", api.Glyph{Code: 300, S: "é", To: api.Point{X: 100000}, High: 100000, Font: "F", Mode: 3}, matrix.Move(100000, 0)},
		{plain(), matrix.One(), broad(), "\x00 ", api.Glyph{Code: 32, S: " ", To: api.Point{X: 25000}, High: 100000, Font: "F", Mode: 3}, matrix.Move(25000, 0)},
		{plain(), matrix.One(), broad(), "\x00!", api.Glyph{Code: 33, To: api.Point{X: 50000}, High: 100000, Font: "F", Mode: 3}, matrix.Move(50000, 0)},
	} {
		l, m, e := show.String(c.g, c.m, c.f, c.s)
		if len(l) != 1 || l[0] != c.want || m != c.next || e != api.OK {
			t.Errorf("String %d = %v, %v, %d, want %v, %v", i, l, m, e, c.want, c.next)
		}
		// A machine shows the same.
		x := on(t, units("Tm", c.m.A, c.m.B, c.m.C, c.m.D, c.m.E, c.m.F))
		if l, e := x.Do(tj(c.s), c.g, c.f); len(l) != 1 || l[0] != c.want || x.Matrix() != c.next || e != api.OK {
			t.Errorf("Tj %d = %v, %d, and the matrix is %v, want %v, %v", i, l, e, x.Matrix(), c.want, c.next)
		}
	}
}

// Promises 48.1 and 48.3: widths and advances, which are rounded to the nearest unit, halves up.
func TestAdvance(t *testing.T) {
	half := api.Font{Name: "H", Widths: []int64{1, 3, 500, 100000}}
	for i, c := range []struct {
		change     func(t *api.TextState)
		f          api.Font
		code       int
		wide, step int64
	}{
		{func(*api.TextState) {}, simple(), 'A', 50000, 50000}, {func(t *api.TextState) { t.Char = 1 }, simple(), 'A', 50000, 50001}, {func(t *api.TextState) { t.Scale = 50 * api.One }, simple(), 'A', 25000, 25000}, {func(t *api.TextState) { t.Scale, t.Char = 50*api.One, 7 }, simple(), 'A', 25000, 25004}, {func(t *api.TextState) { t.Scale, t.Char = 50*api.One, -7 }, simple(), 'A', 25000, 24997},
		{func(t *api.TextState) { t.Word = 5 }, simple(), 'A', 50000, 50000}, {func(t *api.TextState) { t.Word = 5 }, simple(), ' ', 25000, 25005}, {func(t *api.TextState) { t.Word, t.Char = 5, 1 }, simple(), ' ', 25000, 25006}, {func(t *api.TextState) { t.Word, t.Char = 5, 1 }, broad(), 32, 25000, 25001}, {func(t *api.TextState) { t.Word = 5 }, simple(), 7, 100000, 100000}, {func(t *api.TextState) { t.Word, t.Scale = 50, 20*api.One }, simple(), ' ', 5000, 5010},
		{func(t *api.TextState) { t.Scale = 0 }, simple(), 'A', 0, 0}, {func(t *api.TextState) { t.Scale = -100 * api.One }, simple(), 'A', -50000, -50000}, {func(t *api.TextState) { t.Size, t.Char = 0, 9 }, simple(), 'A', 0, 9}, {func(t *api.TextState) { t.Leading, t.Rise = most, -most }, simple(), 'A', 50000, 50000},
		// Rounding: first the width, and then what is scaled.
		{func(t *api.TextState) { t.Size = 500 }, half, 0, 1, 1}, {func(t *api.TextState) { t.Size = 499 }, half, 0, 0, 0}, {func(t *api.TextState) { t.Size = -500 }, half, 0, 0, 0}, {func(t *api.TextState) { t.Size = -501 }, half, 0, -1, -1}, {func(t *api.TextState) { t.Size, t.Scale = 10, 50*api.One }, half, 2, 3, 3}, {func(t *api.TextState) { t.Size, t.Scale = 1000, 50*api.One }, half, 0, 1, 1}, {func(t *api.TextState) { t.Size, t.Scale = -1000, 50*api.One }, half, 0, 0, 0}, {func(t *api.TextState) { t.Size, t.Scale, t.Char = 1000, 50*api.One, 1 }, half, 0, 1, 1}, {func(t *api.TextState) { t.Size, t.Scale, t.Char = 1000, 50*api.One, 2 }, half, 0, 1, 2}, {func(t *api.TextState) { t.Size, t.Scale = 500, 49*api.One }, half, 1, 1, 1},
		{func(t *api.TextState) { t.Size, t.Scale = most/100, 100*api.One }, half, 3, most / 100 * 100, most / 100 * 100},
	} {
		g := plain()
		c.change(&g.Text)
		step, e := show.Step(g, c.f, c.code)
		if step != c.step || e != api.OK {
			t.Errorf("Step %d = %d, %d, want %d", i, step, e, c.step)
		}
		s := string([]byte{byte(c.code)})
		if c.f.Wide {
			s = "\x00" + s
		}
		g.Text.Rise = 0
		l, m, e := show.String(g, matrix.One(), c.f, s)
		if e != api.OK || len(l) != 1 || l[0].To.X != c.wide || m != matrix.Move(c.step, 0) {
			t.Errorf("String %d = %v, %v, %d, want %d and %d", i, l, m, e, c.wide, c.step)
		}
	}
	// A code that the font can't have.
	for _, code := range []int{-1, 256, math.MaxInt, math.MinInt} {
		if n, e := show.Step(plain(), simple(), code); n != 100000 || e != api.OK {
			t.Errorf("Step of %d = %d, %d", code, n, e)
		}
	}
}

// Promise 48.2: the operators that show.
func TestShow(t *testing.T) {
	leading := graphics(func(g *api.Graphics) { g.Text.Leading, g.Text.Word, g.Text.Char = 120000, 11, 13 })
	for i, c := range []struct {
		o    api.Op
		g    api.Graphics
		want [][2]api.Point
		at   api.Matrix
	}{
		{tj("AB"), plain(), line(6, 5, 50005, 50005, 110005), matrix.Move(110005, 6)}, {tj(""), plain(), nil, matrix.Move(5, 6)}, {tj("A A"), plain(), line(6, 5, 50005, 50005, 75005, 75005, 125005), matrix.Move(125005, 6)}, {tj("A A"), leading, line(6, 5, 50005, 50018, 75018, 75042, 125042), matrix.Move(125055, 6)},
		{quote("A"), leading, line(6-120000, 5, 50005), matrix.Move(50018, 6-120000)}, {quote(""), leading, nil, matrix.Move(5, 6-120000)}, {quote("A"), plain(), line(6, 5, 50005), matrix.Move(50005, 6)},
		{quotes(100, 1000, "A A"), leading, line(6-120000, 5, 50005, 51005, 76005, 77105, 127105), matrix.Move(128105, 6-120000)}, {quotes(0, 0, ""), plain(), nil, matrix.Move(5, 6)}, {op("\"", value.Int(1), value.Int(-1), value.String(" A")), plain(), line(6, 5, 25005, 25005, 75005), matrix.Move(65005, 6)},
		{list(), plain(), nil, matrix.Move(5, 6)}, {list(), graphics(func(g *api.Graphics) { g.Text.Size = most + 1 }), nil, matrix.Move(5, 6)}, {list(value.String("A")), plain(), line(6, 5, 50005), matrix.Move(50005, 6)}, {list(value.String("A"), value.Int(-1000), value.String("A")), plain(), line(6, 5, 50005, 150005, 200005), matrix.Move(200005, 6)}, {list(value.Int(1000), value.Real(5000000), value.String(""), value.String("A")), plain(), line(6, 5-150000, 5-100000), matrix.Move(5-100000, 6)}, {list(value.String("A"), value.String("B")), plain(), line(6, 5, 50005, 50005, 110005), matrix.Move(110005, 6)}, {list(value.Int(-1000)), leading, nil, matrix.Move(100005, 6)}, {list(value.Int(-1000)), graphics(func(g *api.Graphics) { g.Text.Scale = 50 * api.One }), nil, matrix.Move(50005, 6)},
		// Rounding: n by a thousand, then the size, then the scale.
		{list(value.Real(500)), plain(), nil, matrix.Move(5-10, 6)}, {list(value.Real(499)), plain(), nil, matrix.Move(5, 6)}, {list(value.Real(-500)), plain(), nil, matrix.Move(5, 6)}, {list(value.Real(-501)), plain(), nil, matrix.Move(5+10, 6)}, {list(value.Real(1000)), graphics(func(g *api.Graphics) { g.Text.Size = 5000 }), nil, matrix.Move(5-1, 6)}, {list(value.Real(-1000)), graphics(func(g *api.Graphics) { g.Text.Size = 5000 }), nil, matrix.Move(5, 6)}, {list(value.Real(1000)), graphics(func(g *api.Graphics) { g.Text.Size, g.Text.Scale = 10000, 50*api.One }), nil, matrix.Move(5-1, 6)}, {list(value.Real(-1000)), graphics(func(g *api.Graphics) { g.Text.Size, g.Text.Scale = 10000, 50*api.One }), nil, matrix.Move(5, 6)}, {list(value.Real(1000)), graphics(func(g *api.Graphics) { g.Text.Size, g.Text.Scale = 5000, 50*api.One }), nil, matrix.Move(5-1, 6)},
	} {
		x := on(t, units("Td", 5, 6))
		l, e := x.Do(c.o, c.g, simple())
		if !slices.Equal(spots(l), c.want) || x.Matrix() != c.at || e != api.OK {
			t.Errorf("Do %d (%v) = %v, %d, and the matrix is %v, want %v, %v", i, c.o, l, e, x.Matrix(), c.want, c.at)
		}
		// The line begins where it began, one leading lower for the operators that go to the next line.
		x.Do(ints("Td", 0, 0), c.g, simple())
		below := int64(6)
		if c.o.Name == "'" || c.o.Name == "\"" {
			below -= c.g.Text.Leading
		}
		if x.Matrix() != matrix.Move(5, below) {
			t.Errorf("after %v the line begins at %v", c.o, x.Matrix())
		}
	}
	// TJ does not look at the font while it shows no string.
	x := on(t)
	if l, e := x.Do(list(value.Int(-1000), value.Int(1)), plain(), api.Font{}); len(l) != 0 || e != api.OK || x.Matrix() != matrix.Move(99900, 0) {
		t.Errorf("TJ without a font = %v, %d, and the matrix is %v", l, e, x.Matrix())
	}
}

// Promise 48.2: what the state of a string is, is not that of the next one.
func TestQuotesOnce(t *testing.T) {
	x := on(t)
	x.Do(quotes(100, 1000, "A "), plain(), simple())
	if l, e := x.Do(tj("A A"), plain(), simple()); e != api.OK || !slices.Equal(spots(l), line(0, 77100, 127100, 127100, 152100, 152100, 202100)) {
		t.Errorf("Tj = %v, %d", l, e)
	}
	// A state that is not usable but for what the operands replace.
	g := graphics(func(g *api.Graphics) { g.Text.Char, g.Text.Word = most+1, -most-1 })
	if l, e := on(t).Do(quotes(0, 0, "A"), g, simple()); e != api.OK || !slices.Equal(spots(l), line(0, 0, 50000)) {
		t.Errorf("%v, %d", l, e)
	}
	if _, e := on(t).Do(quote("A"), g, simple()); e != api.ErrRange {
		t.Errorf("%d", e)
	}
}

// unusable returns states that are not usable.
func unusable() []api.Graphics {
	var l []api.Graphics
	for _, n := range []int64{most + 1, -most - 1, math.MaxInt64, math.MinInt64} {
		for _, change := range []func(g *api.Graphics){
			func(g *api.Graphics) { g.Ctm.A = n }, func(g *api.Graphics) { g.Ctm.F = n }, func(g *api.Graphics) { g.Text.Char = n }, func(g *api.Graphics) { g.Text.Word = n }, func(g *api.Graphics) { g.Text.Scale = n }, func(g *api.Graphics) { g.Text.Leading = n }, func(g *api.Graphics) { g.Text.Size = n }, func(g *api.Graphics) { g.Text.Rise = n },
		} {
			l = append(l, graphics(change))
		}
	}
	return l
}

// Promises 48.1 and 48.2: states that are not usable.
func TestUnusable(t *testing.T) {
	for i, g := range unusable() {
		for _, f := range []api.Font{simple(), {}} {
			if n, e := show.Step(g, f, 65); n != 0 || e != api.ErrRange {
				t.Errorf("Step %d = %d, %d", i, n, e)
			}
			for _, s := range []string{"", "A"} {
				if l, m, e := show.String(g, matrix.One(), f, s); l != nil || m != (api.Matrix{}) || e != api.ErrRange {
					t.Errorf("String %d = %v, %v, %d", i, l, m, e)
				}
			}
			for _, o := range []api.Op{op("T*"), tj(""), tj("A"), quote(""), quote("A"), list(value.String("")), list(value.Int(0)), list(value.String("A"), value.Int(0))} {
				x := on(t, units("Td", 5, 6))
				if l, e := x.Do(o, g, f); l != nil || e != api.ErrRange || x.Matrix() != matrix.Move(5, 6) || !x.On() {
					t.Errorf("Do(%v) in state %d = %v, %d, and the matrix is %v", o, i, l, e, x.Matrix())
				}
			}
		}
		for _, o := range []api.Op{ints("Td", 0, 0), ints("TD", 0, 0), ints("Tm", 1, 0, 0, 1, 0, 0), list(), op("ET")} {
			if l, e := on(t).Do(o, g, api.Font{}); len(l) != 0 || e != api.OK {
				t.Errorf("Do(%v) in state %d = %v, %d", o, i, l, e)
			}
		}
		if _, e := show.New().Do(op("BT"), g, api.Font{}); e != api.OK {
			t.Errorf("BT in state %d = %d", i, e)
		}
	}
	// What the state has beside that does not matter, nor does the edge of what is usable.
	g := graphics(func(g *api.Graphics) {
		g.Width, g.Miter, g.Phase, g.Dash, g.Cap, g.Fill.A = most+1, -1, most+1, []int64{-1}, 99, most+1
		g.Text.Leading, g.Text.Word = most, -most
	})
	if _, _, e := show.String(g, matrix.One(), simple(), "A"); e != api.OK {
		t.Errorf("String in an odd state = %d", e)
	}
}

// Promises 48.1 and 48.2: the errors of fonts and strings, in their order.
func TestFontErrors(t *testing.T) {
	twice := simple()
	twice.Maps = []api.Map{{Code: 1}, {Code: 1}}
	badMaps := broad()
	badMaps.Maps[0].S = "\xff"
	long := strings.Repeat("A", 16385)
	great := api.Matrix{E: most + 1}
	for i, c := range []struct {
		m    api.Matrix
		f    api.Font
		s    string
		want api.Errno
	}{
		{matrix.One(), api.Font{}, "", api.ErrArg}, {matrix.One(), api.Font{}, "A", api.ErrArg}, {matrix.One(), twice, "", api.ErrTwice}, {matrix.One(), twice, long, api.ErrTwice}, {matrix.One(), badMaps, "A", api.ErrForm}, {matrix.One(), broad(), "A", api.ErrForm}, {matrix.One(), broad(), "\x00AB", api.ErrForm}, {matrix.One(), broad(), long, api.ErrForm}, {matrix.One(), broad(), long + long, api.ErrMany}, {matrix.One(), simple(), long, api.ErrMany}, {matrix.One(), simple(), long + long, api.ErrMany},
		{great, api.Font{}, "", api.ErrRange}, {great, simple(), "", api.ErrRange}, {great, simple(), long, api.ErrRange}, {api.Matrix{A: math.MinInt64}, broad(), "A", api.ErrRange},
	} {
		if l, m, e := show.String(plain(), c.m, c.f, c.s); l != nil || m != (api.Matrix{}) || e != c.want {
			t.Errorf("String %d = %v, %v, %d, want %d", i, brief(l), m, e, c.want)
		}
		if c.want == api.ErrRange {
			continue
		}
		for _, o := range []api.Op{tj(c.s), quote(c.s), quotes(1, 1, c.s), list(value.String(c.s)), list(value.Int(1), value.String(c.s))} {
			x := on(t, units("Td", 5, 6))
			if l, e := x.Do(o, plain(), c.f); l != nil || e != c.want || x.Matrix() != matrix.Move(5, 6) {
				t.Errorf("%s %d = %v, %d, want %d, and the matrix is %v", o.Name, i, brief(l), e, c.want, x.Matrix())
			}
		}
	}
	for i, c := range []struct {
		f    api.Font
		want api.Errno
	}{
		{api.Font{}, api.ErrArg}, {twice, api.ErrTwice}, {badMaps, api.ErrForm},
	} {
		if n, e := show.Step(plain(), c.f, 65); n != 0 || e != c.want {
			t.Errorf("Step %d = %d, %d, want %d", i, n, e, c.want)
		}
	}
	if l, m, e := show.String(plain(), matrix.One(), simple(), ""); len(l) != 0 || m != matrix.One() || e != api.OK {
		t.Errorf("String of nothing = %v, %v, %d", l, m, e)
	}
}

// Promise 48.2: errors of operators, after which the machine is as before.
func TestDoErrors(t *testing.T) {
	one, far, name := value.Int(1), value.Int(api.MaxInt), value.Name("A")
	for i, c := range []struct {
		o    api.Op
		want api.Errno
	}{
		{op(""), api.ErrNone}, {op("x", one), api.ErrNone}, {op("Tc", one), api.ErrNone}, {op("TL"), api.ErrNone}, {op("Tf", name, one), api.ErrNone}, {op("q"), api.ErrNone}, {op("tj"), api.ErrNone}, {op("Do", name), api.ErrNone}, {api.Op{Name: "S", Data: "d"}, api.ErrNone}, {op("t*"), api.ErrNone}, {op("Tr", far), api.ErrNone}, {op("?"), api.ErrNone},
		{op("BT", one), api.ErrOp}, {op("ET", one), api.ErrOp}, {op("T*", one), api.ErrOp}, {op("Td", one), api.ErrOp}, {op("Td", one, one, one), api.ErrOp}, {op("Td", one, name), api.ErrOp}, {op("TD", far, name), api.ErrOp}, {ints("Tm", 1, 0, 0, 1, 0), api.ErrOp}, {op("Tm", one, one, one, one, one, name), api.ErrOp}, {op("Tj"), api.ErrOp}, {op("Tj", name), api.ErrOp}, {op("Tj", one), api.ErrOp}, {op("'", sample.Array()), api.ErrOp}, {op("\"", one, value.String("")), api.ErrOp}, {op("\"", value.String(""), one, one), api.ErrOp}, {op("TJ", value.String("A")), api.ErrOp}, {op("TJ", sample.Dict("")), api.ErrOp}, {op("TJ", one), api.ErrOp},
		{api.Op{Name: "BT", Data: "d"}, api.ErrForm}, {api.Op{Name: "T*", Data: "d"}, api.ErrForm}, {api.Op{Name: "Td", Args: []api.Object{far, far}, Data: "d"}, api.ErrForm},
		{op("Td", far, one), api.ErrRange}, {op("TD", one, far), api.ErrRange}, {op("Td", value.Int(107375), one), api.ErrRange}, {units("Td", most+1, 0), api.ErrRange}, {units("TD", 0, -most-1), api.ErrRange}, {op("Tm", one, one, one, one, one, far), api.ErrRange}, {op("Tm", value.Real(math.MinInt64), one, one, one, one, one), api.ErrRange}, {op("\"", far, one, value.String("A")), api.ErrRange}, {op("\"", one, value.Real(most+1), value.String("A")), api.ErrRange},
		{list(name), api.ErrOp}, {list(value.String("A"), value.Null()), api.ErrOp}, {list(value.String("A"), sample.Array()), api.ErrOp}, {list(value.Bool(true)), api.ErrOp}, {list(far), api.ErrOp}, {list(value.Real(most+1), value.String("A")), api.ErrOp}, {list(value.String("A"), value.Int(-107375)), api.ErrOp}, {list(sample.Ref(1, 0)), api.ErrOp}, {list(value.String(strings.Repeat("A", 20000)), name), api.ErrOp},
		{units("Td", most, 0), api.ErrRange}, {units("TD", 0, most), api.ErrRange}, {units("Td", most-4, 0), api.ErrRange},
		{list(value.String("A"), value.String(strings.Repeat("A", 16385)), name), api.ErrOp}, {list(value.String("A"), value.String(strings.Repeat("A", 16385))), api.ErrMany},
	} {
		x := on(t, units("Td", 5, 6))
		if l, e := x.Do(c.o, plain(), simple()); l != nil || e != c.want || x.Matrix() != matrix.Move(5, 6) || !x.On() {
			t.Errorf("Do %d (%v) = %v, %d, want %d, and the matrix is %v", i, brief(c.o), brief(l), e, c.want, x.Matrix())
		}
		x.Do(units("Td", 1, 1), plain(), simple())
		if x.Matrix() != matrix.Move(6, 7) {
			t.Errorf("after %v the line begins at %v", brief(c.o), x.Matrix())
		}
	}
	for i, o := range []api.Op{op("Td", far, far), op("TJ", sample.Array(name)), op("\"", far, far, value.String("")), op("BT")} {
		x := show.New()
		if i == 3 {
			x = on(t)
		}
		if l, e := x.Do(o, plain(), simple()); l != nil || e != api.ErrState {
			t.Errorf("Do(%v) = %v, %d", o, l, e)
		}
	}
}

// Promise 48.2: lengths that are out of range.
func TestFar(t *testing.T) {
	size := func(n int64) api.Graphics { return graphics(func(g *api.Graphics) { g.Text.Size = n }) }
	for i, c := range []struct {
		g    api.Graphics
		m    api.Matrix
		s    string
		want api.Errno
	}{
		{size(most), matrix.One(), "\x07", api.OK}, {size(most), matrix.One(), "\x07\x07", api.ErrRange}, {size(most), matrix.Move(1, 0), "\x07", api.ErrRange}, {size(-most), matrix.One(), "\x07", api.OK},
		{graphics(func(g *api.Graphics) { g.Text.Size, g.Text.Char = most, 1 }), matrix.One(), "\x07", api.ErrRange}, {graphics(func(g *api.Graphics) { g.Text.Size, g.Text.Char = most, -1 }), matrix.One(), "\x07", api.OK}, {graphics(func(g *api.Graphics) { g.Text.Size, g.Text.Word = 4*(most/4), 3*(most/4)+100 }), matrix.One(), " ", api.ErrRange}, {graphics(func(g *api.Graphics) { g.Text.Size, g.Text.Word = 4*(most/4), 3*(most/4) }), matrix.One(), " ", api.OK}, {graphics(func(g *api.Graphics) { g.Text.Char, g.Text.Word = most, -most }), matrix.One(), " ", api.OK},
		{graphics(func(g *api.Graphics) { g.Text.Scale = 200 * api.One; g.Text.Size = most/2 + 1 }), matrix.One(), "\x07", api.ErrRange}, {graphics(func(g *api.Graphics) { g.Text.Scale = 200 * api.One; g.Text.Size = most / 2 }), matrix.One(), "\x07", api.OK}, {graphics(func(g *api.Graphics) { g.Text.Scale = 200 * api.One; g.Text.Char = most/2 - 100000 }), matrix.One(), "\x07", api.OK}, {graphics(func(g *api.Graphics) { g.Text.Scale = 200 * api.One; g.Text.Char = most/2 - 99999 }), matrix.One(), "\x07", api.ErrRange},
		{graphics(func(g *api.Graphics) { g.Ctm = matrix.Scale(20000, 10000) }), matrix.Move(most/2+1, 0), "\x07", api.ErrRange}, {graphics(func(g *api.Graphics) { g.Ctm = matrix.Scale(10000, 20000) }), matrix.One(), "\x07", api.OK}, {graphics(func(g *api.Graphics) { g.Text.Rise = most; g.Ctm = matrix.Scale(10000, 10001) }), matrix.One(), "\x07", api.ErrRange}, {graphics(func(g *api.Graphics) { g.Text.Rise = most }), matrix.One(), "\x07", api.OK}, {graphics(func(g *api.Graphics) { g.Text.Rise = most }), matrix.Move(0, 1), "\x07", api.ErrRange}, {graphics(func(g *api.Graphics) { g.Text.Rise = most }), matrix.Move(0, 1), "", api.OK},
		{graphics(func(g *api.Graphics) { g.Ctm = api.Matrix{A: 10000, C: most, D: 10000} }), matrix.One(), "A", api.ErrRange}, {graphics(func(g *api.Graphics) { g.Ctm = api.Matrix{A: 10000, C: most / 10, D: most / 10} }), matrix.One(), "A", api.ErrRange},
	} {
		l, m, e := show.String(c.g, c.m, simple(), c.s)
		if e != c.want || (e != api.OK) != (m == api.Matrix{}) || e != api.OK && l != nil {
			t.Errorf("String %d = %v, %v, %d, want %d", i, brief(l), m, e, c.want)
		}
	}
	for i, c := range []struct {
		o    api.Op
		g    api.Graphics
		want api.Errno
	}{
		// The product with the size, what is scaled, and where it leads to.
		{list(value.Int(1000)), size(most), api.OK}, {list(value.Int(-1000)), size(-most), api.OK}, {list(value.Int(1001)), size(most), api.ErrRange}, {list(value.Int(-1001), value.Int(1001)), size(most), api.ErrRange}, {list(value.String("\x07"), value.Int(-1)), size(most), api.ErrRange}, {list(value.String("\x07"), value.Int(1)), size(most), api.OK}, {list(value.Int(-1000), value.Int(-1)), size(most), api.ErrRange}, {list(value.Int(-1000), value.String("A")), size(most), api.ErrRange}, {list(value.String("A"), value.Int(-1), value.String("A")), size(most), api.ErrRange},
		{list(value.Int(1000)), graphics(func(g *api.Graphics) { g.Text.Size, g.Text.Scale = most/2, 200*api.One }), api.OK}, {list(value.Int(1000)), graphics(func(g *api.Graphics) { g.Text.Size, g.Text.Scale = most/2+1, 200*api.One }), api.ErrRange}, {list(value.Int(-1000)), graphics(func(g *api.Graphics) { g.Text.Size, g.Text.Scale = most/2+1, 200*api.One }), api.ErrRange}, {list(value.Int(1000)), graphics(func(g *api.Graphics) { g.Text.Size, g.Text.Scale = most, most }), api.ErrRange}, {list(value.Int(0)), graphics(func(g *api.Graphics) { g.Text.Size, g.Text.Scale = most, most }), api.OK},
		{op("T*"), graphics(func(g *api.Graphics) { g.Text.Leading = -most }), api.OK}, {quote("A"), graphics(func(g *api.Graphics) { g.Text.Leading, g.Text.Rise = -most, 1 }), api.ErrRange},
	} {
		x := on(t)
		l, e := x.Do(c.o, c.g, simple())
		if e != c.want || e != api.OK && (l != nil || x.Matrix() != matrix.One()) {
			t.Errorf("Do %d = %v, %d, want %d, and the matrix is %v", i, l, e, c.want, x.Matrix())
		}
	}
	for _, o := range []api.Op{units("Td", 0, 1), units("TD", 0, 1), op("T*"), quote(""), quotes(0, 0, "")} {
		x := on(t, units("Td", 0, most))
		if l, e := x.Do(o, graphics(func(g *api.Graphics) { g.Text.Leading = -1 }), simple()); l != nil || e != api.ErrRange || x.Matrix() != matrix.Move(0, most) {
			t.Errorf("Do(%v) at the edge = %v, %d, and the matrix is %v", o, l, e, x.Matrix())
		}
	}
	huge := api.Font{Name: "H", Widths: []int64{100000}}
	if n, e := show.Step(size(most/100), huge, 0); n != most/100*100 || e != api.OK {
		t.Errorf("Step = %d, %d", n, e)
	}
	if n, e := show.Step(size(most/100+1), huge, 0); n != 0 || e != api.ErrRange {
		t.Errorf("Step of a great width = %d, %d", n, e)
	}
}

// Promise 48.2: as many glyphs as can be.
func TestMany(t *testing.T) {
	g := graphics(func(g *api.Graphics) { g.Text.Size = 1 })
	half, whole := value.String(strings.Repeat("A", 8192)), value.String(strings.Repeat("A", 16384))
	for i, c := range []struct {
		o    api.Op
		size int
	}{
		{tj(whole.S), 16384}, {quote(whole.S), 16384}, {quotes(0, 0, whole.S), 16384}, {list(whole), 16384}, {list(half, half), 16384}, {list(half, value.Int(1), half, value.String("")), 16384}, {list(whole, value.String(""), value.Int(5)), 16384},
		{tj(whole.S + "A"), 0}, {quote(whole.S + "A"), 0}, {list(value.String(whole.S + "A")), 0}, {list(half, half, value.String("A")), 0}, {list(value.String("A"), whole), 0}, {list(half, whole), 0},
	} {
		x := on(t)
		l, e := x.Do(c.o, g, simple())
		want := api.OK
		if c.size == 0 {
			want = api.ErrMany
		}
		if len(l) != c.size || e != want || e != api.OK && x.Matrix() != matrix.One() {
			t.Errorf("Do %d = %d glyphs, %d", i, len(l), e)
		}
	}
	if l, _, e := show.String(g, matrix.One(), simple(), whole.S); len(l) != 16384 || e != api.OK {
		t.Errorf("String of 16384 codes = %d, %d", len(l), e)
	}
	if l, _, e := show.String(g, matrix.One(), broad(), whole.S+whole.S); len(l) != 16384 || e != api.OK {
		t.Errorf("String of 16384 wide codes = %d, %d", len(l), e)
	}
	if l, _, e := show.String(g, matrix.One(), broad(), whole.S+whole.S+"AA"); l != nil || e != api.ErrMany {
		t.Errorf("String of 16385 wide codes = %d, %d", len(l), e)
	}
}

// Promise 48.2: the time for many strings in a great font.
func TestTime(t *testing.T) {
	f := api.Font{Name: "F", Wide: true}
	for code := range api.MaxMap {
		f.Maps = append(f.Maps, api.Map{Code: 16 * code, S: strings.Repeat("é", 256)})
	}
	all := sample.Array()
	for range api.MaxKids {
		all.Kids = append(all.Kids, value.String("\xff\xf0"))
	}
	start := time.Now()
	l, e := on(t).Do(op("TJ", all), graphics(func(g *api.Graphics) { g.Text.Size = 10 }), f)
	if took := time.Since(start); len(l) != api.MaxKids || e != api.OK || l[0].S != f.Maps[0].S || took > 5*time.Second {
		t.Errorf("%d glyphs, %d, in %v", len(l), e, took)
	}
}

// Promise 48.3: positions that need no rounding are exact.
func TestExact(t *testing.T) {
	f := api.Font{Name: "F", Widths: make([]int64, 256)}
	at, s := int64(0), sample.Bytes()
	var want []int64
	for i := range f.Widths {
		f.Widths[i] = int64(i*37%1000) + 1
		want = append(want, at, at+10*f.Widths[i])
		at += 10 * f.Widths[i]
	}
	g := graphics(func(g *api.Graphics) { g.Text.Size = api.One })
	l, m, e := show.String(g, matrix.One(), f, s)
	if !slices.Equal(spots(l), line(0, want...)) || m != matrix.Move(at, 0) || e != api.OK {
		t.Errorf("String = %s, %v, %d, want %s", brief(l), m, e, brief(want))
	}
}

// Examples of DOC.md: two glyphs, and the same when the page is moved.
func TestExamples(t *testing.T) {
	f := api.Font{Name: "F", First: 65, Widths: []int64{500, 500}}
	for _, c := range []struct {
		ctm  api.Matrix
		want [][2]api.Point
	}{
		{matrix.One(), line(60000, 50000, 100000, 100000, 150000)}, {matrix.Move(1000000, 0), line(60000, 1050000, 1100000, 1100000, 1150000)},
	} {
		g := graphics(func(g *api.Graphics) { g.Ctm = c.ctm })
		x := show.New()
		x.Do(op("BT"), g, api.Font{})
		x.Do(ints("Tm", 1, 0, 0, 1, 5, 6), g, api.Font{})
		l, e := x.Do(tj("AB"), g, f)
		if !slices.Equal(spots(l), c.want) || e != api.OK || l[0].High != 100000 || l[1].S != "B" {
			t.Errorf("%v, %d, want %v", l, e, c.want)
		}
	}
}
