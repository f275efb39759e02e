package show_test

import (
	"slices"
	"strings"
	"testing"

	"foliant/api"
	"foliant/fix"
	"foliant/font"
	"foliant/matrix"
	"foliant/ops"
	"foliant/sample"
	"foliant/show"
	"foliant/value"
)

// model does what a machine does, by the words of the chapter.
type model struct {
	on         bool
	text, line api.Matrix
}

// fits reports whether a number is from -MaxFix to MaxFix.
func fits(list ...int64) bool {
	return !slices.ContainsFunc(list, func(n int64) bool { return n < -most || n > most })
}

// usable reports whether a state is.
func usable(g api.Graphics) bool {
	t := g.Text
	return matrix.Check(g.Ctm) == api.OK && fits(t.Char, t.Word, t.Scale, t.Leading, t.Size, t.Rise)
}

// stretched is a number times the scale, divided by 100 One.
func stretched(n int64, g api.Graphics) (int64, bool) {
	n, e := fix.Near(n*g.Text.Scale, 1000000)
	return n, e == api.OK && fits(n)
}

// natural is the width of a code before it is stretched.
func natural(g api.Graphics, f api.Font, code int) (int64, bool) {
	w, e := fix.Mul(g.Text.Size, 10*font.Width(f, code))
	return w, e == api.OK
}

// step is the advance of a code.
func step(g api.Graphics, f api.Font, code int) (int64, bool) {
	w, ok := natural(g, f, code)
	if !ok {
		return 0, false
	}
	l := []int64{w, g.Text.Char}
	if code == 32 && !f.Wide {
		l = append(l, g.Text.Word)
	}
	n, e := fix.Sum(l...)
	if e != api.OK {
		return 0, false
	}
	return stretched(n, g)
}

// glyph is what a code shows, and the text matrix after it.
func glyph(g api.Graphics, m api.Matrix, f api.Font, code int) (api.Glyph, api.Matrix, bool) {
	both, e1 := matrix.Mul(m, g.Ctm)
	w, ok := natural(g, f, code)
	if e1 != api.OK || !ok {
		return api.Glyph{}, m, false
	}
	w, ok1 := stretched(w, g)
	from, e2 := matrix.Apply(both, api.Point{X: 0, Y: g.Text.Rise})
	to, e3 := matrix.Apply(both, api.Point{X: w, Y: g.Text.Rise})
	high, e4 := matrix.Length(both, api.Point{X: 0, Y: g.Text.Size})
	advance, ok2 := step(g, f, code)
	next, e5 := matrix.Mul(matrix.Move(advance, 0), m)
	if !ok1 || !ok2 || e2 != api.OK || e3 != api.OK || e4 != api.OK || e5 != api.OK {
		return api.Glyph{}, m, false
	}
	return api.Glyph{Code: code, S: font.Say(f, code), From: from, To: to, High: high, Font: g.Text.Font, Mode: g.Text.Mode}, next, true
}

// shown does what String does.
func shown(g api.Graphics, m api.Matrix, f api.Font, s string) ([]api.Glyph, api.Matrix, api.Errno) {
	if !usable(g) {
		return nil, api.Matrix{}, api.ErrRange
	}
	if e := matrix.Check(m); e != api.OK {
		return nil, api.Matrix{}, e
	}
	if e := font.Check(f); e != api.OK {
		return nil, api.Matrix{}, e
	}
	codes, e := font.Codes(f, s)
	if e != api.OK {
		return nil, api.Matrix{}, e
	}
	if len(codes) > 16384 {
		return nil, api.Matrix{}, api.ErrMany
	}
	var l []api.Glyph
	for _, code := range codes {
		one, next, ok := glyph(g, m, f, code)
		if !ok {
			return nil, api.Matrix{}, api.ErrRange
		}
		l, m = append(l, one), next
	}
	return l, m, api.OK
}

// move moves by x and y.
func (x *model) move(dx, dy int64) api.Errno {
	m, e := matrix.Mul(matrix.Move(dx, dy), x.line)
	x.line, x.text = m, m
	return e
}

// below moves to the next line.
func (x *model) below(g api.Graphics) api.Errno {
	if !usable(g) {
		return api.ErrRange
	}
	return x.move(0, -g.Text.Leading)
}

// array shows the elements of an array.
func (x *model) array(kids []api.Object, g api.Graphics, f api.Font) ([]api.Glyph, api.Errno) {
	for _, o := range kids {
		if _, ok := value.Number(o); !ok && o.Kind != api.KString {
			return nil, api.ErrOp
		}
	}
	var all []api.Glyph
	for _, o := range kids {
		if o.Kind == api.KString {
			l, m, e := shown(g, x.text, f, o.S)
			if e != api.OK {
				return nil, e
			}
			all, x.text = append(all, l...), m
			continue
		}
		n, _ := value.Number(o)
		n, _ = fix.Near(n, 1000)
		if !usable(g) {
			return nil, api.ErrRange
		}
		n, e := fix.Mul(n, g.Text.Size)
		if e != api.OK {
			return nil, e
		}
		n, ok := stretched(n, g)
		if !ok {
			return nil, api.ErrRange
		}
		if x.text, e = matrix.Mul(matrix.Move(-n, 0), x.text); e != api.OK {
			return nil, e
		}
	}
	return all, api.OK
}

// act does what an operator does, which leaves the model changed beside an error.
func (x *model) act(o api.Op, n []int64, g api.Graphics, f api.Font) ([]api.Glyph, api.Errno) {
	switch o.Name {
	case "BT", "ET":
		*x = model{on: o.Name == "BT", text: matrix.One(), line: matrix.One()}
	case "Td", "TD":
		return nil, x.move(n[0], n[1])
	case "T*":
		return nil, x.below(g)
	case "Tm":
		m := api.Matrix{A: n[0], B: n[1], C: n[2], D: n[3], E: n[4], F: n[5]}
		x.text, x.line = m, m
		return nil, matrix.Check(m)
	case "TJ":
		return x.array(o.Args[0].Kids, g, f)
	}
	if o.Name == "\"" {
		g.Text.Word, g.Text.Char = n[0], n[1]
	}
	if o.Name == "'" || o.Name == "\"" {
		if e := x.below(g); e != api.OK {
			return nil, e
		}
	}
	var l []api.Glyph
	if s := o.Args; len(s) > 0 && s[len(s)-1].Kind == api.KString {
		var e api.Errno
		l, x.text, e = shown(g, x.text, f, s[len(s)-1].S)
		return l, e
	}
	return nil, api.OK
}

// do does what Do does.
func (x *model) do(o api.Op, g api.Graphics, f api.Font) ([]api.Glyph, api.Errno) {
	if !slices.Contains(strings.Fields("BT ET Td TD T* Tm Tj ' \" TJ"), o.Name) {
		return nil, api.ErrNone
	}
	if e := ops.Check(o); e != api.OK {
		return nil, e
	}
	if x.on != (o.Name != "BT") {
		return nil, api.ErrState
	}
	var n []int64
	for _, arg := range o.Args {
		if arg.Kind == api.KInt || arg.Kind == api.KReal {
			m, ok := value.Number(arg)
			if !ok {
				return nil, api.ErrRange
			}
			n = append(n, m)
		}
	}
	next := *x
	l, e := next.act(o, n, g, f)
	if e != api.OK {
		return nil, e
	}
	*x = next
	return l, api.OK
}

// mixer makes choices that look irregular and are always the same.
type mixer uint32

// pick chooses a number from 0 to below, not included.
func (x *mixer) pick(below int) int {
	*x = *x*1664525 + 1013904223
	return int(*x>>8) % below
}

// units returns a number of units, which is rarely great.
func (x *mixer) units() int64 {
	if x.pick(60) == 0 {
		return []int64{most, -most, most - 1, most / 2, -most / 2}[x.pick(5)]
	}
	return int64(x.pick(400000) - 200000)
}

// number returns a number, which is rarely out of range.
func (x *mixer) number() api.Object {
	switch x.pick(80) {
	case 0:
		return value.Int(api.MaxInt)
	case 1:
		return value.Real(most + 1)
	}
	if x.pick(2) == 0 {
		return value.Int(int64(x.pick(2000) - 1000))
	}
	return value.Real(x.units())
}

// text returns a string of codes, of which an odd number is rare.
func (x *mixer) text() api.Object {
	s := ""
	for range 2 * x.pick(4) {
		s += string([]byte{" AB\x00\x01!\xff"[x.pick(7)]})
	}
	if x.pick(20) == 0 {
		s += "A"
	}
	return value.String(s)
}

// array returns the operand of TJ.
func (x *mixer) array() api.Object {
	o := sample.Array()
	for range x.pick(6) {
		if x.pick(2) == 0 {
			o.Kids = append(o.Kids, x.text())
		} else {
			o.Kids = append(o.Kids, value.Int(int64(x.pick(4000)-2000)))
		}
	}
	if x.pick(20) == 0 {
		o.Kids = append(o.Kids, []api.Object{value.Null(), value.Name("A"), value.Int(api.MaxInt), sample.Array(), value.Real(most)}[x.pick(5)])
	}
	return o
}

// operator returns an operator, which is rarely wrong.
func (x *mixer) operator() api.Op {
	names := strings.Fields("BT BT ET Td TD T* Tm Tj Tj Tj ' ' \" \" TJ TJ TJ Tc q")
	o := op(names[x.pick(len(names))])
	for _, letter := range ops.Takes(o.Name) {
		switch letter {
		case 'n':
			o.Args = append(o.Args, x.number())
		case 's':
			o.Args = append(o.Args, x.text())
		case 'a':
			o.Args = append(o.Args, x.array())
		}
	}
	switch x.pick(80) {
	case 0:
		o.Args = append(o.Args, x.number())
	case 1:
		o.Data = "d"
	}
	return o
}

// matrix returns a matrix that is small in most cases.
func (x *mixer) matrix() api.Matrix {
	if x.pick(3) == 0 {
		return matrix.Move(x.units(), x.units())
	}
	small := func() int64 { return int64(x.pick(40000) - 20000) }
	return api.Matrix{A: small(), B: small(), C: small(), D: small(), E: x.units(), F: x.units()}
}

// state returns a graphics state, which is rarely not usable.
func (x *mixer) state() api.Graphics {
	g := api.Graphics{Ctm: x.matrix(), Text: api.TextState{Scale: 100 * api.One, Size: x.units(), Font: "F", Mode: x.pick(8)}}
	t := &g.Text
	for _, n := range []*int64{&t.Char, &t.Word, &t.Leading, &t.Rise, &t.Scale} {
		if x.pick(2) == 0 {
			*n = x.units()
		}
	}
	if x.pick(40) == 0 {
		*[]*int64{&t.Char, &t.Word, &t.Leading, &t.Rise, &t.Scale, &t.Size, &g.Ctm.B}[x.pick(7)] = []int64{most + 1, -most - 1}[x.pick(2)]
	}
	return g
}

// font returns one of some fonts, which is rarely wrong.
func (x *mixer) font() api.Font {
	named := simple()
	named.Names = slices.Repeat([]string{"x", "uni00E9"}, 128)
	list := []api.Font{simple(), simple(), named, broad(), {Name: "N"}, {Name: "W", Wide: true, First: 255, Widths: []int64{7, 100000, 333}, Missing: 777}}
	if x.pick(40) == 0 {
		list = []api.Font{{}, {Name: "F", Missing: -1}, {Name: "F", Maps: []api.Map{{Code: 1}, {Code: 1}}}, {Name: "F", Maps: []api.Map{{S: "\xff"}}}}
	}
	return list[x.pick(len(list))]
}

// Promises 48.1 and 48.2, by the words of the chapter.
func TestByTheWords(t *testing.T) {
	x, found, glyphs := mixer(48), map[api.Errno]int{}, 0
	for range 600 {
		got, want := show.New(), model{text: matrix.One(), line: matrix.One()}
		g, f := x.state(), x.font()
		for range 100 {
			if x.pick(3) == 0 {
				g, f = x.state(), x.font()
			}
			o := x.operator()
			wantList, wantErr := want.do(o, g, f)
			l, e := got.Do(o, g, f)
			if !slices.Equal(l, wantList) || e != wantErr || got.On() != want.on || got.Matrix() != want.text {
				t.Fatalf("Do(%v) = %v, %d, want %v, %d, and the matrix is %v, want %v", o, l, e, wantList, wantErr, got.Matrix(), want.text)
			}
			found[e]++
			glyphs += len(l)
			code := x.pick(300)
			n, ok := step(g, f, code)
			wantErr = api.OK
			if !usable(g) {
				wantErr = api.ErrRange
			} else if e := font.Check(f); e != api.OK {
				wantErr = e
			} else if !ok {
				wantErr = api.ErrRange
			}
			if wantErr != api.OK {
				n = 0
			}
			if got, e := show.Step(g, f, code); got != n || e != wantErr {
				t.Fatalf("Step(%v, %v, %d) = %d, %d, want %d, %d", g, f, code, got, e, n, wantErr)
			}
		}
	}
	for _, e := range []api.Errno{api.OK, api.ErrNone, api.ErrOp, api.ErrForm, api.ErrRange, api.ErrState, api.ErrArg, api.ErrTwice} {
		if found[e] < 50 {
			t.Errorf("the errors are %v", found)
		}
	}
	if glyphs < 20000 {
		t.Errorf("%d glyphs were shown", glyphs)
	}
}

// Promise 48.3: showing a string in two pieces gives the same result as showing it at once.
func TestPieces(t *testing.T) {
	x, shown := mixer(49), 0
	for range 5000 {
		g, f, m := x.state(), x.font(), x.matrix()
		s := x.text().S + x.text().S
		whole, wholeEnd, e := show.String(g, m, f, s)
		cut := x.pick(len(s) + 1)
		if f.Wide {
			cut -= cut % 2
		}
		if e != api.OK {
			continue
		}
		first, between, e1 := show.String(g, m, f, s[:cut])
		second, end, e2 := show.String(g, between, f, s[cut:])
		if e1 != api.OK || e2 != api.OK || !slices.Equal(append(first, second...), whole) || end != wholeEnd {
			t.Fatalf("%q in two pieces ends at %v, %d, %d, and at once at %v", s, end, e1, e2, wholeEnd)
		}
		// A machine, with one string, with two, and with an array of two.
		for i, l := range [][]api.Op{{tj(s)}, {tj(s[:cut]), tj(s[cut:])}, {list(value.String(s[:cut]), value.Int(0), value.String(s[cut:]))}} {
			x := on(t, units("Tm", m.A, m.B, m.C, m.D, m.E, m.F))
			var all []api.Glyph
			for _, o := range l {
				more, e := x.Do(o, g, f)
				if e != api.OK {
					t.Fatalf("Do(%v) = %d", o, e)
				}
				all = append(all, more...)
			}
			if !slices.Equal(all, whole) || x.Matrix() != wholeEnd {
				t.Fatalf("%q shown by way %d ends at %v, and at once at %v", s, i, x.Matrix(), wholeEnd)
			}
		}
		shown += len(whole)
	}
	if shown < 10000 {
		t.Errorf("%d glyphs were shown", shown)
	}
}
