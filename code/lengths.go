package code

import (
	"cmp"
	"slices"

	"foliant/api"
)

// Lengths returns the lengths of a cheapest code for symbols that occur so often, none longer than most bits.
func Lengths(counts []int, most int) ([]int, api.Errno) {
	if len(counts) > api.MaxCodes {
		return nil, api.ErrMany
	}
	if most < 1 || most > api.MaxBits || slices.ContainsFunc(counts, func(n int) bool { return !upTo(n, api.MaxInt) }) {
		return nil, api.ErrArg
	}
	signs := rarestFirst(counts)
	if len(signs) > 1<<most {
		return nil, api.ErrCode
	}
	lens := make([]int, len(counts))
	if len(signs) == 1 {
		lens[signs[0]] = 1
		return lens, api.OK
	}
	for _, n := range chosen(coins(counts, signs), most) {
		for _, sign := range signs[:n] {
			lens[sign]++
		}
	}
	return lens, api.OK
}

// rarestFirst returns the symbols that occur.
func rarestFirst(counts []int) []int {
	var signs []int
	for sign, n := range counts {
		if n > 0 {
			signs = append(signs, sign)
		}
	}
	slices.SortStableFunc(signs, func(a, b int) int { return cmp.Compare(counts[a], counts[b]) })
	return signs
}

// coin is a symbol, or a pair of coins of the row before.
type coin struct {
	weight int
	pair   bool
}

func coins(counts, signs []int) []coin {
	var row []coin
	for _, sign := range signs {
		row = append(row, coin{weight: counts[sign]})
	}
	return row
}

// chosen merges packages: it makes a row of coins for each bit that a code may have, the last row for the first bit, and takes from the last one the lightest coins that together pay for a code. For each row it returns the number of symbols among those taken, which are the rarest ones: their codes have that bit.
func chosen(single []coin, most int) []int {
	rows := [][]coin{single}
	for i := range most - 1 {
		row := append(slices.Clone(single), pairs(rows[i])...)
		slices.SortStableFunc(row, func(a, b coin) int { return cmp.Compare(a.weight, b.weight) })
		rows = append(rows, row)
	}
	var numbers []int
	take := max(0, 2*len(single)-2)
	for _, row := range slices.Backward(rows) {
		n := take - paired(row[:take])
		numbers = append(numbers, n)
		take = 2 * (take - n)
	}
	return numbers
}

// pairs puts each two neighbours of a row together.
func pairs(row []coin) []coin {
	var l []coin
	for two := range slices.Chunk(row, 2) {
		if len(two) == 2 {
			l = append(l, coin{two[0].weight + two[1].weight, true})
		}
	}
	return l
}

func paired(row []coin) int {
	n := 0
	for _, c := range row {
		if c.pair {
			n++
		}
	}
	return n
}
