// Package alphabet has the symbols of the deflate format, which inflate reads and deflate writes.
package alphabet

// The types of blocks.
const (
	Stored = iota
	Fixed
	Dynamic
)

const MostStored = 65535 // bytes of a stored block

// The symbols of literals and sizes: those before End are bytes.
const (
	End       = 256 // of a block
	FirstSize = 257
	LastSize  = 285

	LeastSize = 3
)

// The symbols of distances: the first one is 0.
const (
	LastFar = 29

	LeastFar = 1
)

// The symbols of code lengths: those before Same are lengths, and the others repeat one.
const (
	Same    = 16 // the length before
	Zeros   = 17
	Wide    = 18 // many zeros
	Lengths = 19 // the number of all of them

	LeastLengths = 4 // of their codes, that a block tells at least
)

// Repeat tells how often a symbol repeats its length: Least times, and once more for each of the number in its extra bits.
type Repeat struct{ Least, Bits int }

// Most returns the greatest number of times.
func (r Repeat) Most() int { return r.Least + 1<<r.Bits - 1 }

// Repeats returns how often the symbols repeat their lengths.
func Repeats() map[int]Repeat {
	return map[int]Repeat{Same: {3, 2}, Zeros: {3, 3}, Wide: {11, 7}}
}

// Order returns the symbols of code lengths in the order in which a block tells the lengths of their codes.
func Order() [Lengths]int {
	return [Lengths]int{Same, Zeros, Wide, 0, 8, 7, 9, 6, 10, 5, 11, 4, 12, 3, 13, 2, 14, 1, 15}
}
