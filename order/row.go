package order

import (
	"cmp"
	"slices"
	"strings"

	"foliant/api"
)

const (
	drop = 2 // a glyph may stand lower than the first one of its row by the height of that one, divided by this
	gap  = 4 // and away from the one before it in its word by the height of that one, divided by this
)

// blanks are the bytes of which blank glyphs consist.
const blanks = "\t\n\r "

// sign is a glyph in range, and its index in the argument list.
type sign struct {
	api.Glyph
	at int
}

// row has glyphs from the left to the right.
type row []sign

// clamped returns a glyph with its coordinates and its height in range.
func clamped(g api.Glyph) api.Glyph {
	for _, n := range [...]*int64{&g.From.X, &g.From.Y, &g.To.X, &g.To.Y} {
		*n = min(max(*n, -api.MaxFix), api.MaxFix)
	}
	g.High = min(max(g.High, 0), api.MaxFix)
	return g
}

// around returns the smallest rectangle that contains a and b.
func around(a, b api.Rect) api.Rect {
	return api.Rect{X0: min(a.X0, b.X0), Y0: min(a.Y0, b.Y0), X1: max(a.X1, b.X1), Y1: max(a.Y1, b.Y1)}
}

// eachRow shows the rows of glyphs to see, from the top down.
func eachRow(l []api.Glyph, see func(r row)) {
	var rest row
	for at, g := range l {
		if g.S != "" {
			rest = append(rest, sign{clamped(g), at})
		}
	}
	slices.SortStableFunc(rest, func(a, b sign) int { return cmp.Compare(b.From.Y, a.From.Y) })
	for len(rest) > 0 {
		first := rest[0]
		end := slices.IndexFunc(rest, func(s sign) bool { return first.From.Y-s.From.Y > first.High/drop })
		if end < 0 {
			end = len(rest)
		}
		r := rest[:end]
		slices.SortFunc(r, func(a, b sign) int { return cmp.Or(cmp.Compare(a.From.X, b.From.X), cmp.Compare(a.at, b.at)) })
		see(r)
		rest = rest[end:]
	}
}

// words returns the words of a row.
func (r row) words() []api.Word {
	var l []api.Word
	for len(r) > 0 {
		n := r.joined()
		if n == 0 {
			r = r[1:]
			continue
		}
		l = append(l, r[:n].word())
		r = r[n:]
	}
	return l
}

// joined returns how many glyphs at the beginning of a row form a word.
func (r row) joined() int {
	n := 0
	for n < len(r) && !r[n].blank() && (n == 0 || r[n-1].joins(r[n])) {
		n++
	}
	return n
}

// blank reports whether a glyph only separates words.
func (s sign) blank() bool { return strings.Trim(s.S, blanks) == "" }

// joins reports whether a glyph continues the word of the one before it.
func (s sign) joins(next sign) bool {
	between := next.From.X - s.To.X
	return between <= s.High/gap && between >= -s.High
}

// word returns the word that the glyphs of a row form together.
func (r row) word() api.Word {
	var text strings.Builder
	box := Box(r[0].Glyph)
	for _, s := range r {
		text.WriteString(s.S)
		box = around(box, Box(s.Glyph))
	}
	return api.Word{S: text.String(), Box: box}
}
