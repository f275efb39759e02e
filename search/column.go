package search

import (
	"strings"

	"foliant/api"
)

// span is a word, and from where to where it stands in the text of its line.
type span struct {
	api.Word
	from, to int
}

// column has the text of a line, folded, and those of its words that can still contribute to a hit.
type column struct {
	text string
	rest []span
}

// columnOf returns the column of a line.
func columnOf(l api.Line) *column {
	var c column
	var all strings.Builder
	for i, w := range l.Words {
		if i > 0 {
			all.WriteByte(' ')
		}
		from := all.Len()
		all.WriteString(w.S)
		c.rest = append(c.rest, span{w, from, all.Len()})
	}
	c.text = folded(all.String())
	return &c
}

// box returns the smallest rectangle that contains the boxes of the words with a byte between two offsets. From one call to the next, the offsets must not go back.
func (c *column) box(from, to int) api.Rect {
	for len(c.rest) > 0 && c.rest[0].to <= from {
		c.rest = c.rest[1:]
	}
	var box api.Rect
	found := false
	for _, w := range c.rest {
		if w.from >= to {
			break
		}
		if w.from == w.to {
			continue
		}
		if !found {
			box, found = w.Box, true
		}
		box = api.Rect{X0: min(box.X0, w.Box.X0), Y0: min(box.Y0, w.Box.Y0), X1: max(box.X1, w.Box.X1), Y1: max(box.Y1, w.Box.Y1)}
	}
	return box
}

// eachMatch shows to see from where to where s stands in text, each time after the last one. Both must be folded.
func eachMatch(text, s string, see func(from, to int)) {
	for at := 0; ; at += len(s) {
		n := strings.Index(text[at:], s)
		if n < 0 {
			return
		}
		at += n
		see(at, at+len(s))
	}
}

// folded returns s with ASCII letters in lower case, and all other bytes as they are.
func folded(s string) string {
	all := []byte(s)
	for i, c := range all {
		if c >= 'A' && c <= 'Z' {
			all[i] = c - 'A' + 'a'
		}
	}
	return string(all)
}
