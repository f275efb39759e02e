package deflate

import (
	"math/bits"

	"foliant/alphabet"
	"foliant/api"
)

// base is the odd factor by which the bytes of a string are hashed.
const base = 0x9e3779b97f4a7c15

// finder finds the longest match at each position of a string, from left to right.
type finder struct {
	text string
	at   int
	sums []uint64 // sums[i] stands for the first i bytes
	rows []row    // by falling size
}

// row knows where strings of one size stood last. Many a place has a match of three bytes and few have a long one: with a row for greater sizes too, only few places need to be compared with one another.
type row struct {
	size   int
	factor uint64  // base to the power of size
	last   []int32 // by hash: one more than the last place of such a string, or 0
	before []int32 // by place, for those in the window: one more than the place before it of the same hash, or 0
}

func newFinder(s string) *finder {
	f := &finder{text: s, sums: make([]uint64, len(s)+1)}
	for i := range len(s) {
		f.sums[i+1] = f.sums[i]*base + uint64(s[i]) + 1
	}
	for _, size := range [...]int{128, 64, 32, 16, 12, 8, 6, 4, alphabet.LeastSize} {
		if size <= len(s) {
			f.rows = append(f.rows, newRow(size, len(s)))
		}
	}
	return f
}

// newRow returns a row that is made for a string of n bytes.
func newRow(size, n int) row {
	factor := uint64(1)
	for range size {
		factor *= base
	}
	places := min(1<<bits.Len(uint(n)), api.Window)
	return row{size, factor, make([]int32, 2*places), make([]int32, places)}
}

// longest returns the size and the distance of the longest match, which is the nearest one of that size, or 0 and 0.
func (f *finder) longest() (size, far int) {
	limit := min(api.MaxCopy, len(f.text)-f.at)
	for i := range f.rows {
		r := &f.rows[i]
		if r.size > limit {
			continue
		}
		most := limit
		if i > 0 && f.rows[i-1].size <= limit {
			most = f.rows[i-1].size - 1 // the row before has none
		}
		if size, far = f.inRow(r, most); size > 0 {
			return size, far
		}
	}
	return 0, 0
}

// inRow returns the longest match that a row knows of, of most bytes at most, or 0 and 0 if none has as many as the row.
func (f *finder) inRow(r *row, most int) (size, far int) {
	size = r.size - 1
	for next := r.last[f.hash(r, f.at)]; next > 0; {
		place := int(next) - 1
		if f.at-place > api.Window || size == most {
			break
		}
		if f.text[place+size] == f.text[f.at+size] {
			if n := f.common(place, most); n > size {
				size, far = n, f.at-place
			}
		}
		next = r.before[place%len(r.before)]
	}
	if far == 0 {
		return 0, 0
	}
	return size, far
}

// common returns how many bytes from a place on are those from here on, most of them at most.
func (f *finder) common(place, most int) int {
	n := 0
	for n < most && f.text[place+n] == f.text[f.at+n] {
		n++
	}
	return n
}

// hash returns where a row looks up the string that begins at a place.
func (f *finder) hash(r *row, place int) int {
	h := f.sums[place+r.size] - f.sums[place]*r.factor
	return int(h * base >> (64 - bits.Len(uint(len(r.last)-1))))
}

// pass goes on by n bytes.
func (f *finder) pass(n int) {
	for range n {
		for i := range f.rows {
			r := &f.rows[i]
			if r.size > len(f.text)-f.at {
				continue
			}
			h := f.hash(r, f.at)
			r.before[f.at%len(r.before)] = r.last[h]
			r.last[h] = int32(f.at + 1)
		}
		f.at++
	}
}
