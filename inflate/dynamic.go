package inflate

import (
	"slices"

	"foliant/alphabet"
	"foliant/api"
	"foliant/code"
	"foliant/give"
)

// dynamic reads the codes of a block that brings its own.
func (r *reader) dynamic() *codes {
	signs := r.count(5, alphabet.FirstSize, alphabet.LastSize+1)
	distances := r.count(5, 1, alphabet.LastFar+1)
	table := r.lengthCode(alphabet.LeastLengths + r.number(4))
	lens := r.lengths(table, signs+distances)
	if lens[alphabet.End] == 0 {
		give.Up(api.ErrCode)
	}
	return newCodes(lens[:signs], lens[signs:])
}

// count reads how many symbols there are beyond the least number.
func (r *reader) count(bits, least, most int) int {
	n := least + r.number(bits)
	if n > most {
		give.Up(api.ErrForm)
	}
	return n
}

// lengthCode reads the code of the code lengths, of which the first n are told.
func (r *reader) lengthCode(n int) *code.Table {
	var lens [alphabet.Lengths]int
	order := alphabet.Order()
	for _, sign := range order[:n] {
		lens[sign] = r.number(3)
	}
	return give.Value(code.New(lens[:]))
}

// lengths reads n code lengths.
func (r *reader) lengths(table *code.Table, n int) []int {
	repeats := alphabet.Repeats()
	var lens []int
	for len(lens) < n {
		sign := give.Value(table.Read(r.bits))
		v, times := sign, 1
		if repeat, ok := repeats[sign]; ok {
			v = repeated(sign, lens)
			times = repeat.Least + r.number(repeat.Bits)
		}
		if times > n-len(lens) {
			give.Up(api.ErrForm)
		}
		lens = append(lens, slices.Repeat([]int{v}, times)...)
	}
	return lens
}

// repeated returns the length that a symbol repeats after the lengths before it.
func repeated(sign int, lens []int) int {
	if sign != alphabet.Same {
		return 0
	}
	if len(lens) == 0 {
		give.Up(api.ErrForm)
	}
	return lens[len(lens)-1]
}
