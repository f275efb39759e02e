package order_test

import (
	"fmt"
	"math"
	"slices"
	"strings"
	"testing"
	"time"

	"foliant/api"
	"foliant/order"
)

// most is the greatest coordinate that is not clamped.
const most = api.MaxFix

// glyph returns a glyph that extends to the right from a point.
func glyph(s string, x, y, wide, high int64) api.Glyph {
	return api.Glyph{S: s, From: api.Point{X: x, Y: y}, To: api.Point{X: x + wide, Y: y}, High: high}
}

// box returns a rectangle.
func box(x0, y0, x1, y1 int64) api.Rect { return api.Rect{X0: x0, Y0: y0, X1: x1, Y1: y1} }

// text returns the text of the lines of glyphs.
func text(l ...api.Glyph) string { return order.Text(order.Lines(l)) }

// reads checks the text of glyphs, and that Words has the same words as Lines.
func reads(t *testing.T, want string, l ...api.Glyph) {
	t.Helper()
	was := slices.Clone(l)
	if got := text(l...); got != want {
		t.Errorf("%v reads %q, want %q", l, got, want)
	}
	var words []api.Word
	for _, line := range order.Lines(l) {
		words = append(words, line.Words...)
		if len(line.Words) == 0 {
			t.Errorf("%v has a line without words", l)
		}
	}
	if got := order.Words(l); !slices.Equal(got, words) {
		t.Errorf("%v has the words %v, want %v", l, got, words)
	}
	if !slices.Equal(l, was) {
		t.Errorf("%v was changed to %v", was, l)
	}
}

// Promises 50.1 and 50.2, by the example of the chapter.
func TestExample(t *testing.T) {
	l := []api.Glyph{glyph("a", 0, 0, 5, 12), glyph("b", 5, 0, 5, 12), glyph("c", 20, 0, 5, 12)}
	reads(t, "ab c\n", l...)
	l = append(l, glyph("d", 0, -20, 5, 12))
	reads(t, "ab c\nd\n", l...)
	want := []api.Line{
		{Words: []api.Word{{S: "ab", Box: box(0, 0, 10, 12)}, {S: "c", Box: box(20, 0, 25, 12)}}, Box: box(0, 0, 25, 12)},
		{Words: []api.Word{{S: "d", Box: box(0, -20, 5, -8)}}, Box: box(0, -20, 5, -8)},
	}
	if got := order.Lines(l); !order.Same(got, want) {
		t.Errorf("the lines are %v, want %v", got, want)
	}
}

// Promise 50.1: the box of a glyph.
func TestBox(t *testing.T) {
	for _, c := range []struct {
		from, to api.Point
		high     int64
		want     api.Rect
	}{
		{api.Point{X: 1, Y: 2}, api.Point{X: 3, Y: 2}, 4, box(1, 2, 3, 6)},
		{api.Point{X: 3, Y: 5}, api.Point{X: 1, Y: 2}, 4, box(1, 2, 3, 9)},
		{api.Point{X: -3, Y: 2}, api.Point{X: 1, Y: 5}, 0, box(-3, 2, 1, 5)},
		{api.Point{}, api.Point{}, -1, box(0, 0, 0, 0)},
		{api.Point{}, api.Point{}, math.MinInt64, box(0, 0, 0, 0)},
		{api.Point{}, api.Point{}, most, box(0, 0, 0, most)},
		{api.Point{}, api.Point{}, most + 1, box(0, 0, 0, most)},
		{api.Point{}, api.Point{}, math.MaxInt64, box(0, 0, 0, most)},
		{api.Point{X: most, Y: -most}, api.Point{X: -most, Y: most}, 7, box(-most, -most, most, most+7)},
		{api.Point{X: most + 1, Y: -most - 1}, api.Point{X: -most - 1, Y: most + 1}, 7, box(-most, -most, most, most+7)},
		{api.Point{X: math.MaxInt64, Y: math.MinInt64}, api.Point{X: math.MinInt64, Y: math.MaxInt64}, math.MaxInt64, box(-most, -most, most, 2*most)},
	} {
		if got := order.Box(api.Glyph{From: c.from, To: c.to, High: c.high, S: "x"}); got != c.want {
			t.Errorf("Box from %v to %v, %d high, is %v, want %v", c.from, c.to, c.high, got, c.want)
		}
	}
}

// Promise 50.1: rows.
func TestRows(t *testing.T) {
	far := func(s string, x, y, high int64) api.Glyph { return glyph(s, x, y, 5, high) }
	for _, c := range []struct {
		want string
		l    []api.Glyph
	}{
		{"", nil},
		{"b\na\n", []api.Glyph{far("a", 0, 0, 10), far("b", 0, 100, 10)}},
		// Half of the height of the first glyph of the row, rounded down, and no other one's.
		{"a b\n", []api.Glyph{far("a", 0, 0, 11), far("b", 100, -5, 11)}},
		{"a\nb\n", []api.Glyph{far("a", 0, 0, 11), far("b", 100, -6, 11)}},
		{"a\nb\n", []api.Glyph{far("a", 0, 0, 11), far("b", 100, -6, 99)}},
		{"a b\n", []api.Glyph{far("a", 0, 0, 11), far("b", 100, -5, 0)}},
		{"b a\n", []api.Glyph{far("a", 100, -5, 11), far("b", 0, 0, 11)}},
		{"c b a\nd\n", []api.Glyph{far("a", 100, 0, 10), far("b", 50, -3, 99), far("c", 0, -5, 99), far("d", 0, -6, 10)}},
		{"a b\nc\n", []api.Glyph{far("a", 0, 0, 10), far("b", 50, -5, 10), far("c", 100, -10, 10)}},
		{"a b\nd c\n", []api.Glyph{far("c", 50, -9, 10), far("b", 50, -5, 10), far("d", 0, -14, 10), far("a", 0, 0, 10)}},
		{"a\nb\nc\n", []api.Glyph{far("a", 0, 2, 0), far("b", 50, 1, 1), far("c", 100, 0, 1)}},
		{"a b\n", []api.Glyph{far("a", 0, 2, 0), far("b", 50, 2, 1)}},
		{"a\nb\n", []api.Glyph{far("a", 0, 2, -100), far("b", 50, 1, 1)}},
		// Of glyphs that stand equally high, the first one of the list begins the row.
		{"b a c\n", []api.Glyph{far("a", 50, 0, 100), far("b", 0, 0, 2), far("c", 100, -40, 2)}},
		{"b a\nc\n", []api.Glyph{far("b", 0, 0, 2), far("a", 50, 0, 100), far("c", 100, -40, 2)}},
		// Glyphs equally far to the right stand as in the list, wherever they stand in height.
		{"b a\n", []api.Glyph{far("b", 0, -1, 4), far("a", 0, 0, 4)}},
		{"a b\n", []api.Glyph{far("a", 0, 0, 4), far("b", 0, -1, 4)}},
		{"c b a d\n", []api.Glyph{far("c", 0, -1, 4), far("b", 0, 0, 4), far("d", 9, 0, 4), far("a", 0, -2, 4)}},
		// A blank glyph can be the first one of a row, and one without text can't.
		{"a b\n", []api.Glyph{far("a", 0, -10, 2), far(" ", 50, 0, 40), far("b", 100, -20, 2)}},
		{"a\nb\n", []api.Glyph{far("a", 0, -10, 2), far("", 50, 0, 40), far("b", 100, -20, 2)}},
		{"a\nb\n", []api.Glyph{far("a", 0, 0, 2), far(" ", 50, -20, 40), far("b", 100, -50, 2)}},
		{"a\n", []api.Glyph{far("a", 0, 0, 2), far(" \t", 50, -20, 4), far("\r\n", 100, -50, 2)}},
		{"", []api.Glyph{far(" ", 0, 0, 2), far("", 50, -20, 4)}},
		// Out of range.
		{"a b\n", []api.Glyph{far("b", most+90, most, 4), far("a", -most-90, most+50, 4)}},
		{"ab\n", []api.Glyph{{S: "a", From: api.Point{X: math.MaxInt64, Y: math.MaxInt64}, To: api.Point{X: math.MaxInt64}, High: -1}, {S: "b", From: api.Point{X: math.MaxInt64 - 1, Y: most}, High: math.MaxInt64}}},
		{"b\na\n", []api.Glyph{{S: "a", From: api.Point{Y: math.MinInt64}}, {S: "b", From: api.Point{Y: math.MaxInt64}, High: most}}},
	} {
		reads(t, c.want, c.l...)
	}
}

// Promise 50.1: words.
func TestWords(t *testing.T) {
	next := func(x, high int64) []api.Glyph {
		return []api.Glyph{glyph("a", 0, 0, 10, high), glyph("b", x, 0, 10, 1000)}
	}
	for _, c := range []struct {
		want string
		l    []api.Glyph
	}{
		// A quarter of the height of the glyph before it, rounded down, and back by that height.
		{"ab\n", next(10, 11)}, {"ab\n", next(12, 11)}, {"a b\n", next(13, 11)}, {"ab\n", next(12, 8)}, {"a b\n", next(13, 8)}, {"ab\n", next(10, 0)}, {"a b\n", next(11, 0)}, {"a b\n", next(11, 3)}, {"a b\n", next(9, 0)}, {"a b\n", next(9, -9)}, {"ab\n", next(9, 1)}, {"a b\n", next(8, 1)}, {"ab\n", next(0, 10)}, {"a b\n", next(0, 9)}, {"ab\n", next(3, 7)}, {"a b\n", next(3, 6)},
		// The gap begins where the glyph before it ends, even if that is on its left.
		{"ab\n", []api.Glyph{glyph("a", 40, 0, -5, 40), glyph("b", 45, 0, 10, 40)}}, {"a b\n", []api.Glyph{glyph("a", 40, 0, -6, 40), glyph("b", 45, 0, 10, 40)}},
		{"abc\n", []api.Glyph{glyph("a", 0, 0, 10, 8), glyph("b", 12, 0, 10, 8), glyph("c", 24, 0, 10, 8)}}, {"a bc\n", []api.Glyph{glyph("a", 0, 0, 10, 8), glyph("b", 13, 0, 10, 8), glyph("c", 24, 0, 10, 8)}},
		// Blank glyphs.
		{"a b\n", []api.Glyph{glyph("a", 0, 0, 5, 8), glyph(" ", 5, 0, 0, 8), glyph("b", 5, 0, 5, 8)}}, {"a b\n", []api.Glyph{glyph("a", 0, 0, 5, 8), glyph("\t\n\r ", 5, 0, 0, 8), glyph("b", 5, 0, 5, 8)}}, {"a b\n", []api.Glyph{glyph(" ", 0, 0, 0, 8), glyph("a", 0, 0, 5, 8), glyph(" ", 5, 0, 0, 8), glyph("  ", 5, 0, 0, 8), glyph("b", 5, 0, 5, 8), glyph("\n", 10, 0, 5, 8)}},
		{"ab\n", []api.Glyph{glyph("a", 0, 0, 5, 8), glyph("", 5, 0, 0, 8), glyph("b", 5, 0, 5, 8)}}, {"ab\n", []api.Glyph{glyph("a", 0, 0, 5, 8), glyph("", 3, 0, 100, 1), glyph("b", 5, 0, 5, 8)}},
		{"a bc\n", []api.Glyph{glyph("a b", 0, 0, 5, 8), glyph("c", 5, 0, 5, 8)}}, {"a c\n", []api.Glyph{glyph("a ", 0, 0, 5, 8), glyph("c", 5, 0, 5, 8)}}, {"\x00\x0b\x0c\n", []api.Glyph{glyph("\x00", 0, 0, 5, 8), glyph("\x0b", 5, 0, 5, 8), glyph("\x0c", 10, 0, 5, 8)}}, {"\u00a0\u2003\n", []api.Glyph{glyph("\u00a0", 0, 0, 5, 8), glyph("\u2003", 5, 0, 5, 8)}}, {"\xff b\n", []api.Glyph{glyph("\xff", 0, 0, 5, 8), glyph(" ", 1, 0, 5, 8), glyph("b", 5, 0, 5, 8)}},
		// The glyph before it is the one on its left, wherever it stands in the list.
		{"abc\n", []api.Glyph{glyph("c", 10, 0, 5, 8), glyph("a", 0, 0, 5, 8), glyph("b", 5, 0, 5, 8)}},
	} {
		reads(t, c.want, c.l...)
	}
}

// Promise 50.1: the boxes of words and lines.
func TestBoxes(t *testing.T) {
	l := []api.Glyph{glyph("a", 0, 0, 10, 20), {S: "b", From: api.Point{X: 10, Y: -5}, To: api.Point{X: 2, Y: 30}, High: 7}, glyph(" ", 12, 3, 900, 40), glyph("c", 50, -8, 10, 100), glyph("", 0, 0, 1000, 1000)}
	want := []api.Line{{Words: []api.Word{{S: "ab", Box: box(0, -5, 10, 37)}, {S: "c", Box: box(50, -8, 60, 92)}}, Box: box(0, -8, 60, 92)}}
	if got := order.Lines(l); !order.Same(got, want) {
		t.Errorf("the lines are %v, want %v", got, want)
	}
}

// Promise 50.2: the text of any lines.
func TestText(t *testing.T) {
	word := func(s string) api.Word { return api.Word{S: s} }
	for _, c := range []struct {
		l    []api.Line
		want string
	}{
		{nil, ""}, {[]api.Line{{}}, "\n"}, {[]api.Line{{Words: []api.Word{word("a")}}}, "a\n"}, {[]api.Line{{Words: []api.Word{word("a"), word("b c"), word("")}}, {Words: []api.Word{word("\n")}}}, "a b c \n\n\n"},
	} {
		if got := order.Text(c.l); got != c.want {
			t.Errorf("Text(%v) = %q, want %q", c.l, got, c.want)
		}
	}
}

// Promise 50.2: lines that are equal, and lines that are not.
func TestSame(t *testing.T) {
	make := func() []api.Line {
		return []api.Line{{Words: []api.Word{{S: "a", Box: box(1, 2, 3, 4)}, {S: "b"}}, Box: box(1, 2, 3, 4)}, {Words: []api.Word{{S: "c"}}}}
	}
	for i, change := range []func(l []api.Line) []api.Line{
		func(l []api.Line) []api.Line { l[0].Words[0].S = "A"; return l }, func(l []api.Line) []api.Line { l[0].Words[0].Box.X0++; return l }, func(l []api.Line) []api.Line { l[0].Words[1].Box.Y1++; return l }, func(l []api.Line) []api.Line { l[0].Box.Y0++; return l }, func(l []api.Line) []api.Line { l[1].Box.X1++; return l },
		func(l []api.Line) []api.Line { return l[:1] }, func(l []api.Line) []api.Line { return append(l, api.Line{}) }, func(l []api.Line) []api.Line { l[0].Words = l[0].Words[:1]; return l }, func(l []api.Line) []api.Line { l[1].Words = nil; return l }, func(l []api.Line) []api.Line { slices.Reverse(l); return l }, func(l []api.Line) []api.Line { slices.Reverse(l[0].Words); return l }, func(l []api.Line) []api.Line { return nil },
	} {
		l := change(make())
		if order.Same(l, make()) || order.Same(make(), l) || !order.Same(l, l) {
			t.Errorf("change %d makes no difference", i)
		}
	}
	if !order.Same(make(), make()) || !order.Same(nil, []api.Line{}) || !order.Same([]api.Line{{}}, []api.Line{{Words: []api.Word{}}}) {
		t.Error("equal lines are not the same")
	}
}

// P5: many glyphs.
func TestTakesNoLonger(t *testing.T) {
	begin := time.Now()
	long := strings.Repeat("x", 700)
	for _, step := range []int64{0, 1, 5, 100} {
		for _, down := range []int64{0, 1, 100} {
			var l []api.Glyph
			for i := range int64(api.MaxGlyphs) {
				l = append(l, glyph(long, step*(i%777), -down*(i%555), 5, 12))
			}
			n := 0
			for _, w := range order.Words(l) {
				n += len(w.S)
			}
			if n != len(long)*api.MaxGlyphs {
				t.Errorf("the words have %d bytes", n)
			}
			order.Text(order.Lines(l))
		}
	}
	if time.Since(begin) > 10*time.Second {
		t.Errorf("it took %v", time.Since(begin))
	}
}

// model arranges glyphs by the words of the chapter, as slowly as they are simple.
func model(list []api.Glyph) []api.Line {
	clamp := func(n int64) int64 { return max(-most, min(most, n)) }
	var rest []int
	l := slices.Clone(list)
	for i := range l {
		g := &l[i]
		g.From, g.To = api.Point{X: clamp(g.From.X), Y: clamp(g.From.Y)}, api.Point{X: clamp(g.To.X), Y: clamp(g.To.Y)}
		g.High = max(0, clamp(g.High))
		if g.S != "" {
			rest = append(rest, i)
		}
	}
	var lines []api.Line
	for len(rest) > 0 {
		first := rest[0]
		for _, i := range rest {
			if l[i].From.Y > l[first].From.Y {
				first = i
			}
		}
		in := func(i int) bool { return l[first].From.Y-l[i].From.Y <= l[first].High/2 }
		var row []int
		for _, i := range rest {
			if in(i) {
				at := len(row)
				for at > 0 && l[row[at-1]].From.X > l[i].From.X {
					at--
				}
				row = slices.Insert(row, at, i)
			}
		}
		rest = slices.DeleteFunc(rest, in)
		if line := lineOf(l, row); len(line.Words) > 0 {
			lines = append(lines, line)
		}
	}
	return lines
}

// lineOf returns the line of a row.
func lineOf(l []api.Glyph, row []int) api.Line {
	var line api.Line
	union := func(r *api.Rect, with api.Rect, first bool) {
		if first {
			*r = with
		}
		*r = box(min(r.X0, with.X0), min(r.Y0, with.Y0), max(r.X1, with.X1), max(r.Y1, with.Y1))
	}
	blank := func(g api.Glyph) bool { return strings.Trim(g.S, " \t\r\n") == "" }
	for n, i := range row {
		g := l[i]
		if blank(g) {
			continue
		}
		begins := n == 0
		if n > 0 {
			before := l[row[n-1]]
			gap := g.From.X - before.To.X
			begins = blank(before) || gap > before.High/4 || gap < -before.High
		}
		if begins {
			line.Words = append(line.Words, api.Word{})
		}
		w := &line.Words[len(line.Words)-1]
		w.S += g.S
		union(&w.Box, order.Box(g), begins)
	}
	for i, w := range line.Words {
		union(&line.Box, w.Box, i == 0)
	}
	return line
}

// mixer makes choices that look irregular and are always the same.
type mixer uint32

// pick chooses a number from 0 to below, not included.
func (x *mixer) pick(below int) int {
	*x = *x*1664525 + 1013904223
	return int(*x>>8) % below
}

// glyphs makes glyphs that are close to one another, apart from rare ones out of range.
func (x *mixer) glyphs(distinct bool) []api.Glyph {
	var l []api.Glyph
	size := 1 + x.pick(40)
	for range x.pick(30) {
		g := glyph([]string{"a", "b", "cd", " ", "\t", "", "é", "x y"}[x.pick(8)], int64(x.pick(3*size)), int64(x.pick(size)), int64(x.pick(12)), int64(x.pick(16)))
		g.To.Y += int64(x.pick(3)) - 1
		if x.pick(40) == 0 && !distinct {
			g.From.X, g.To.Y, g.High = g.From.X*most, g.From.Y*-most, int64(x.pick(3)-1)*math.MaxInt64
		}
		l = append(l, g)
	}
	return l
}

// Promises 50.1 and 50.3, by the words of the chapter.
func TestByTheWords(t *testing.T) {
	x, lines, words := mixer(50), 0, 0
	for range 20000 {
		l := x.glyphs(false)
		want := model(l)
		got := order.Lines(l)
		if !order.Same(got, want) {
			t.Fatalf("Lines(%v) = %v, want %v", l, got, want)
		}
		all := order.Words(l)
		bytes, wantBytes := 0, 0
		for _, w := range all {
			bytes += len(w.S)
		}
		for _, g := range l {
			if strings.Trim(g.S, " \t\r\n") != "" {
				wantBytes += len(g.S)
			}
		}
		if bytes != wantBytes {
			t.Fatalf("the words of %v are %v", l, all)
		}
		lines, words = lines+len(got), words+len(all)
	}
	if lines < 40000 || words < 100000 {
		t.Errorf("%d lines with %d words", lines, words)
	}
}

// Promise 50.4.
func TestTranslationAndOrder(t *testing.T) {
	x := mixer(504)
	for range 5000 {
		l := x.glyphs(true)
		by := api.Point{X: int64(x.pick(2000000) - 1000000), Y: int64(x.pick(2000000) - 1000000)}
		moved := slices.Clone(l)
		for i := range moved {
			g := &moved[i]
			g.From.X, g.From.Y, g.To.X, g.To.Y = g.From.X+by.X, g.From.Y+by.Y, g.To.X+by.X, g.To.Y+by.Y
		}
		want := order.Words(l)
		for i := range want {
			b := &want[i].Box
			*b = box(b.X0+by.X, b.Y0+by.Y, b.X1+by.X, b.Y1+by.Y)
		}
		if got := order.Words(moved); !slices.Equal(got, want) {
			t.Fatalf("%v moved has the words %v, want %v", l, got, want)
		}
		// Distinct coordinates, in both directions, so that no two glyphs have an equal one.
		for i := range l {
			l[i].From.X, l[i].From.Y = l[i].From.X*100+int64(i), l[i].From.Y*100+int64(i)
			l[i].To.X, l[i].High = l[i].To.X*100, l[i].High*100
		}
		lines := order.Lines(l)
		for i := range l {
			j := x.pick(i + 1)
			l[i], l[j] = l[j], l[i]
		}
		if got := order.Lines(l); !order.Same(got, lines) {
			t.Fatalf("%v in another order has the lines %v, want %v", l, got, lines)
		}
	}
}

// DOC.md, aliasing: the answers share no memory.
func TestMemory(t *testing.T) {
	l := []api.Glyph{glyph("a", 0, 0, 5, 8), glyph("b", 90, 0, 5, 8), glyph("c", 0, -90, 5, 8)}
	was := slices.Clone(l)
	lines := order.Lines(l)
	first := fmt.Sprint(lines[1:])
	lines[0].Words = append(lines[0].Words[:1], api.Word{S: "x"}, api.Word{S: "y"})
	if !slices.Equal(l, was) || fmt.Sprint(lines[1:]) != first {
		t.Errorf("memory is shared: %v, %v", l, lines)
	}
}
