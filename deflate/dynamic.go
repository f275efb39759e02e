package deflate

import (
	"foliant/alphabet"
	"foliant/api"
	"foliant/code"
	"foliant/give"
)

const mostLengthBits = 7 // of the code of a code length

// suited returns the lengths of the codes that suit parts best.
func suited(parts []Part) (signs, fars []int) {
	var signCounts [alphabet.LastSize + 1]int
	var farCounts [alphabet.LastFar + 1]int
	signCounts[alphabet.End] = 1
	for _, p := range parts {
		if p.literal() {
			signCounts[p.Byte]++
			continue
		}
		sign, _, _, _ := Sign(p.Size)
		signCounts[sign]++
		far, _, _, _ := Back(p.Far)
		farCounts[far]++
	}
	signs = give.Value(code.Lengths(signCounts[:], api.MaxBits))
	fars = give.Value(code.Lengths(farCounts[:], api.MaxBits))
	return trimmed(signs, alphabet.FirstSize), trimmed(fars, 1)
}

// trimmed returns a list without the zeros at its end, but for the first least ones.
func trimmed(l []int, least int) []int {
	n := len(l)
	for n > least && l[n-1] == 0 {
		n--
	}
	return l[:n]
}

// step is a symbol that tells code lengths, and the value of its extra bits.
type step struct{ sign, more int }

// lengths writes code lengths, after the code by which they are told.
func (w writer) lengths(lens []int) {
	l := steps(lens)
	var counts [alphabet.Lengths]int
	for _, s := range l {
		counts[s.sign]++
	}
	own := give.Value(code.Lengths(counts[:], mostLengthBits))
	w.lengthCode(own)
	table := give.Value(code.New(own))
	repeats := alphabet.Repeats()
	for _, s := range l {
		w.symbol(table, s.sign, s.more, repeats[s.sign].Bits)
	}
}

// lengthCode writes the code of the code lengths.
func (w writer) lengthCode(lens []int) {
	var ordered [alphabet.Lengths]int
	for i, sign := range alphabet.Order() {
		ordered[i] = lens[sign]
	}
	told := trimmed(ordered[:], alphabet.LeastLengths)
	w.number(len(told)-alphabet.LeastLengths, 4)
	for _, n := range told {
		w.number(n, 3)
	}
}

// steps returns the symbols that tell code lengths.
func steps(lens []int) []step {
	var l []step
	repeats := alphabet.Repeats()
	for i := 0; i < len(lens); {
		sign := next(lens, i)
		times := 1
		s := step{sign: sign}
		if repeat, ok := repeats[sign]; ok {
			times = min(alike(lens[i:]), repeat.Most())
			s.more = times - repeat.Least
		}
		l = append(l, s)
		i += times
	}
	return l
}

// next returns the symbol that tells the most lengths from place i on.
func next(lens []int, i int) int {
	n := alike(lens[i:])
	switch {
	case lens[i] == 0 && n >= 11:
		return alphabet.Wide
	case lens[i] == 0 && n >= 3:
		return alphabet.Zeros
	case i > 0 && lens[i] == lens[i-1] && n >= 3:
		return alphabet.Same
	}
	return lens[i]
}

// alike returns how many elements from the first on are the same.
func alike(l []int) int {
	n := 0
	for n < len(l) && l[n] == l[0] {
		n++
	}
	return n
}
