package cmap

import (
	"maps"
	"slices"

	"foliant/api"
	"foliant/give"
	"foliant/lex"
)

// The words at the beginnings and ends of sections.
const (
	spaceBegin = "begincodespacerange"
	spaceEnd   = "endcodespacerange"
	charBegin  = "beginbfchar"
	charEnd    = "endbfchar"
	rangeBegin = "beginbfrange"
	rangeEnd   = "endbfrange"
)

// wideSize is how many bytes a wide code has.
const wideSize = 2

// scanner tells the tokens of a text.
type scanner struct {
	s  string
	at int
}

// next returns the next token, or gives up with its error.
func (x *scanner) next() api.Token {
	t := give.Value(lex.Next(x.s, x.at))
	x.at = t.To
	return t
}

// inside returns the next token of a section, or gives up if there is none.
func (x *scanner) inside() api.Token {
	t := x.next()
	if t.Kind == api.TEnd {
		give.Up(api.ErrEnd)
	}
	return t
}

// book has the texts of the codes that have been mapped so far, and how often one was.
type book struct {
	texts  map[int]string
	mapped int
}

// enter maps a code, unless an earlier row does.
func (x *book) enter(code int, text string) {
	x.mapped++
	if x.mapped > api.MaxMap {
		give.Up(api.ErrMany)
	}
	if _, ok := x.texts[code]; !ok {
		x.texts[code] = text
	}
}

// list returns the codes in increasing order, with their texts.
func (x *book) list() []api.Map {
	var l []api.Map
	for _, code := range slices.Sorted(maps.Keys(x.texts)) {
		l = append(l, api.Map{Code: code, S: x.texts[code]})
	}
	return l
}

// reader reads the sections of a text into a book. Its methods give up with the first error.
type reader struct {
	scanner
	book
	// size is how many bytes each code has, or 0 before the first one.
	size int
}

// read reads all sections, and returns what they map.
func (r *reader) read() []api.Map {
	for t := r.next(); t.Kind != api.TEnd; t = r.next() {
		if t.Kind != api.TWord {
			continue
		}
		switch t.S {
		case spaceBegin:
			r.section(spaceEnd, func(first int) { r.last(first) })
		case charBegin:
			r.section(charEnd, func(code int) { r.enter(code, text(r.inside())) })
		case rangeBegin:
			r.section(rangeEnd, r.span)
		}
	}
	return r.list()
}

// section reads rows up to the word end. What follows the first code of a row is read by rest.
func (r *reader) section(end string, rest func(code int)) {
	for {
		t := r.inside()
		if t.Kind == api.TWord && t.S == end {
			return
		}
		rest(r.code(t))
	}
}

// code returns the code that a token has.
func (r *reader) code(t api.Token) int {
	n := len(t.S)
	if t.Kind != api.TString || n < 1 || n > wideSize || r.size != 0 && n != r.size {
		give.Up(api.ErrForm)
	}
	r.size = n
	if n == wideSize {
		return unitAt(t.S, 0)
	}
	return int(t.S[0])
}

// last returns the second code of a row.
func (r *reader) last(first int) int {
	code := r.code(r.inside())
	if code < first {
		give.Up(api.ErrForm)
	}
	return code
}

// text returns the text that a token has.
func text(t api.Token) string {
	if t.Kind != api.TString {
		give.Up(api.ErrForm)
	}
	return give.Value(Utf(t.S))
}

// marks reports whether a token is the given mark.
func marks(t api.Token, mark string) bool { return t.Kind == api.TMark && t.S == mark }

// span reads what follows the first code of a row that maps several ones.
func (r *reader) span(first int) {
	last := r.last(first)
	if t := r.inside(); marks(t, "[") {
		r.each(first, last)
	} else {
		r.upward(first, last, t)
	}
}

// each maps codes to the strings of a list, of which the first mark was read.
func (r *reader) each(first, last int) {
	var l []string
	t := r.inside()
	for ; !marks(t, "]"); t = r.inside() {
		l = append(l, text(t))
	}
	if len(l) != last-first+1 {
		give.Up(api.ErrForm)
	}
	for i, s := range l {
		r.enter(first+i, s)
	}
}

// upward maps codes to the text of a token, whose last code unit grows by one from code to code.
func (r *reader) upward(first, last int, t api.Token) {
	if text(t) == "" {
		give.Up(api.ErrForm)
	}
	cut := len(t.S) - unitSize
	unit := unitAt(t.S, cut)
	if unit+last-first > maxWideCode {
		give.Up(api.ErrRange)
	}
	// A unit that is half of a pair makes a character with the other half only.
	half := cut
	if low(unit) {
		half -= unitSize
	}
	head := give.Value(Utf(t.S[:half]))
	for i := range last - first + 1 {
		tail, e := Utf(string(appendUnit([]byte(t.S[half:cut]), unit+i)))
		if e != api.OK {
			give.Up(api.ErrRange)
		}
		r.enter(first+i, head+tail)
	}
}
