package code

import (
	"slices"

	"foliant/api"
	"foliant/bit"
)

// Table reads and writes the symbols of one code.
type Table struct {
	lens, codes []int // by symbol
	signs       []int // those that have codes, in the order of their codes
	count       tally
	longest     int
}

// New returns the table of a code.
func New(lens []int) (*Table, api.Errno) {
	codes, e := Codes(lens)
	if e != api.OK {
		return nil, e
	}
	t := &Table{lens: slices.Clone(lens), codes: codes, count: count(lens)}
	for n := 1; n <= api.MaxBits; n++ {
		if t.count[n] > 0 {
			t.longest = n
		}
	}
	t.signs = ordered(lens, t.count)
	return t, api.OK
}

// ordered returns the symbols that have codes, those of the same length beside one another.
func ordered(lens []int, t tally) []int {
	var next tally
	total := 0
	for n, codes := range t {
		next[n] = total
		total += codes
	}
	signs := make([]int, total)
	for sign, n := range lens {
		if n > 0 {
			signs[next[n]] = sign
			next[n]++
		}
	}
	return signs
}

// Read reads a symbol.
func (t *Table) Read(r *bit.Reader) (int, api.Errno) {
	if t == nil || r == nil {
		return 0, api.ErrArg
	}
	word, first, shorter := 0, 0, 0 // the bits read, the first code of so many bits, and the number of shorter codes
	for n := range t.longest {
		b, e := r.Low(1)
		if e != api.OK {
			return 0, e
		}
		word = word<<1 | b
		codes := t.count[n+1]
		if word-first < codes {
			return t.signs[shorter+word-first], api.OK
		}
		shorter += codes
		first = (first + codes) << 1
	}
	return 0, api.ErrCode
}

// Write writes a symbol.
func (t *Table) Write(w *bit.Writer, sign int) api.Errno {
	if t == nil || w == nil || sign < 0 || sign >= len(t.lens) {
		return api.ErrArg
	}
	if t.lens[sign] == 0 {
		return api.ErrCode
	}
	for i := range t.lens[sign] {
		if e := w.Low(t.codes[sign]>>(t.lens[sign]-1-i)&1, 1); e != api.OK {
			return e
		}
	}
	return api.OK
}
