package linear

import (
	"iter"
	"math/bits"

	"foliant/api"
)

// word is how many numbers a word of a set tells of.
const word = 64

// numbers is a set of object numbers.
type numbers [api.MaxNum/word + 1]uint64

// add puts a number in.
func (s *numbers) add(num int) { s[num/word] |= 1 << (num % word) }

// has reports whether a number is in the set.
func (s *numbers) has(num int) bool { return s[num/word]&(1<<(num%word)) != 0 }

// addAll puts all numbers of another set in.
func (s *numbers) addAll(other *numbers) {
	for i, w := range other {
		s[i] |= w
	}
}

// drop takes a number out.
func (s *numbers) drop(num int) { s[num/word] &^= 1 << (num % word) }

// without yields the numbers that are in the set and not in the other one, in increasing order.
func (s *numbers) without(other *numbers) iter.Seq[int] {
	return func(yield func(int) bool) {
		for i, w := range s {
			for w &^= other[i]; w != 0; w &= w - 1 {
				if !yield(i*word + bits.TrailingZeros64(w)) {
					return
				}
			}
		}
	}
}
