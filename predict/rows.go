package predict

// The tags of the row filters.
const (
	keep = iota
	sub
	up
	average
	paeth

	kinds // the number of all of them
)

// filter tells what a row filter subtracts from a byte, given the bytes beside it.
type filter func(left, above, corner byte) byte

// filters returns the row filters by their tags.
func filters() [kinds]filter {
	return [kinds]filter{
		keep:    func(_, _, _ byte) byte { return 0 },
		sub:     func(left, _, _ byte) byte { return left },
		up:      func(_, above, _ byte) byte { return above },
		average: func(left, above, _ byte) byte { return byte((int(left) + int(above)) / 2) },
		paeth:   Paeth,
	}
}

// Paeth returns whichever of a, b and c is closest to a + b - c, and the first such one.
func Paeth(a, b, c byte) byte {
	guess := int(a) + int(b) - int(c)
	nearest := a
	for _, v := range [...]byte{b, c} {
		if away(guess, v) < away(guess, nearest) {
			nearest = v
		}
	}
	return nearest
}

// away returns how far v is from guess.
func away(guess int, v byte) int { return max(guess-int(v), int(v)-guess) }

// Best returns the tag of the row filter that leaves the smallest bytes, taken as signed ones.
func Best(prev, row string, colors int) int {
	before, plain := []byte(prev), []byte(row)
	colors = max(colors, 1)
	tag, least := keep, weight(plain)
	for i, f := range filters() {
		if n := weight(f.apply(before, plain, colors)); n < least {
			tag, least = i, n
		}
	}
	return tag
}

// weight returns the sum of the absolute values of signed bytes.
func weight(row []byte) int {
	sum := 0
	for _, d := range row {
		sum += min(int(d), 256-int(d))
	}
	return sum
}

// apply returns a filtered row.
func (f filter) apply(prev, row []byte, colors int) []byte {
	out := make([]byte, len(row))
	for i, c := range row {
		out[i] = c - f(beside(prev, row, i, colors))
	}
	return out
}

// reverse returns the row that was filtered.
func (f filter) reverse(prev, row []byte, colors int) []byte {
	out := make([]byte, len(row))
	for i, d := range row {
		out[i] = d + f(beside(prev, out, i, colors))
	}
	return out
}

// beside returns the bytes to the left of position i, above it, and above to the left.
func beside(prev, row []byte, i, colors int) (left, above, corner byte) {
	return at(row, i-colors), at(prev, i), at(prev, i-colors)
}

// at returns the byte at position i, or 0 where there is none.
func at(row []byte, i int) byte {
	if i < 0 || i >= len(row) {
		return 0
	}
	return row[i]
}
