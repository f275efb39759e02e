package show

import (
	"foliant/api"
	"foliant/fix"
	"foliant/font"
	"foliant/give"
	"foliant/matrix"
	"foliant/value"
)

const (
	parts    = 1000            // of the size: widths, and the numbers of TJ, count them
	part     = api.One / parts // in units
	unscaled = 100 * api.One   // the scale that changes nothing

	space = 32
)

// writer is a machine that executes an operator in a graphics state and with a font. Its methods give up with the first error.
type writer struct {
	Machine
	state  api.Graphics
	font   api.Font
	glyphs []api.Glyph
	// ready tells that the state and the font were checked, which takes as long as the font is great.
	ready bool
}

// checkState gives up unless a graphics state is usable.
func checkState(g api.Graphics) {
	give.UpOn(matrix.Check(g.Ctm))
	t := g.Text
	for _, n := range [...]int64{t.Char, t.Word, t.Scale, t.Leading, t.Size, t.Rise} {
		inRange(n)
	}
}

// inRange returns n, or gives up if it is out of range.
func inRange(n int64) int64 {
	if n < -api.MaxFix || n > api.MaxFix {
		give.Up(api.ErrRange)
	}
	return n
}

// scaled returns a length on the line when the text state has stretched it.
func scaled(t api.TextState, n int64) int64 {
	return inRange(give.Value(fix.Near(n*t.Scale, unscaled)))
}

// natural returns how wide a code is before it is stretched.
func natural(t api.TextState, f api.Font, code int) int64 {
	return give.Value(fix.Mul(t.Size, part*font.Width(f, code)))
}

// advance returns how far a code moves what follows it.
func advance(t api.TextState, f api.Font, code int) int64 {
	if code != space || f.Wide {
		t.Word = 0
	}
	return scaled(t, give.Value(fix.Sum(natural(t, f, code), t.Char, t.Word)))
}

// nextLine goes to the next line.
func (w *writer) nextLine() {
	checkState(w.state)
	w.move(0, -w.state.Text.Leading)
}

// showBelow shows s on the next line.
func (w *writer) showBelow(s string) {
	w.nextLine()
	w.show(s)
}

// showAll shows the strings of a list, and goes back by the numbers between them.
func (w *writer) showAll(list []api.Object) {
	for _, o := range list {
		if _, ok := value.Number(o); !ok && o.Kind != api.KString {
			give.Up(api.ErrOp)
		}
	}
	for _, o := range list {
		if n, ok := value.Number(o); ok {
			w.back(n)
		} else {
			w.show(o.S)
		}
	}
}

// back goes back by n thousandths of the size.
func (w *writer) back(n int64) {
	checkState(w.state)
	t := w.state.Text
	w.shift(-scaled(t, give.Value(fix.Mul(give.Value(fix.Near(n, parts)), t.Size))))
}

// show shows s.
func (w *writer) show(s string) {
	w.check()
	codes := give.Value(font.Codes(w.font, s))
	if len(codes) > api.MaxGlyphs {
		give.Up(api.ErrMany)
	}
	for _, code := range codes {
		w.glyph(code)
	}
	if len(w.glyphs) > api.MaxGlyphs {
		give.Up(api.ErrMany)
	}
}

// check gives up unless text can be shown.
func (w *writer) check() {
	if w.ready {
		return
	}
	checkState(w.state)
	give.UpOn(matrix.Check(w.text))
	give.UpOn(font.Check(w.font))
	w.ready = true
}

// glyph shows a code.
func (w *writer) glyph(code int) {
	t := w.state.Text
	m := give.Value(matrix.Mul(w.text, w.state.Ctm))
	width := scaled(t, natural(t, w.font, code))
	w.glyphs = append(w.glyphs, api.Glyph{
		Code: code,
		S:    font.Say(w.font, code),
		From: give.Value(matrix.Apply(m, api.Point{Y: t.Rise})),
		To:   give.Value(matrix.Apply(m, api.Point{X: width, Y: t.Rise})),
		High: give.Value(matrix.Length(m, api.Point{Y: t.Size})),
		Font: t.Font,
		Mode: t.Mode,
	})
	w.shift(advance(t, w.font, code))
}
