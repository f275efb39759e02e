package code_test

import (
	"fmt"
	"math/big"
	"math/rand"
	"slices"
	"strings"
	"testing"

	"foliant/api"
	"foliant/bit"
	"foliant/code"
)

// brief shows the beginning of anything.
func brief(x any) string { return fmt.Sprintf("%.200s", fmt.Sprint(x)) }

// filled returns n times v.
func filled(n, v int) []int { return slices.Repeat([]int{v}, n) }

// fixed has the lengths of a great code.
func fixed() []int {
	return slices.Concat(filled(144, 8), filled(112, 9), filled(24, 7), filled(8, 8))
}

// stairs has codes of each length up to n.
func stairs(n int) []int {
	var l []int
	for i := range n {
		l = append(l, i+1)
	}
	return append(l, n)
}

// with returns a copy of l whose i-th element is v.
func with(l []int, i, v int) []int {
	l = slices.Clone(l)
	l[i] = v
	return l
}

// fraction returns the room that codes take.
func fraction(lens []int) *big.Rat {
	sum := new(big.Rat)
	for _, n := range lens {
		if n > 0 {
			sum.Add(sum, big.NewRat(1, int64(1)<<n))
		}
	}
	return sum
}

// wanted is what the words of the chapter say of lengths.
func wanted(lens []int) api.Errno {
	some := slices.DeleteFunc(slices.Clone(lens), func(n int) bool { return n == 0 })
	switch {
	case len(lens) > api.MaxCodes:
		return api.ErrMany
	case slices.ContainsFunc(lens, func(n int) bool { return n < 0 || n > api.MaxBits }):
		return api.ErrArg
	case len(some) == 0 || len(some) == 1 && some[0] == 1 || fraction(lens).Cmp(big.NewRat(1, 1)) == 0:
		return api.OK
	}
	return api.ErrCode
}

// words returns the codes of symbols as words of zeros and ones: each is the next of its length, after the shorter ones.
func words(lens []int) []string {
	l := make([]string, len(lens))
	next := 0
	for n := 1; n <= api.MaxBits; n++ {
		next *= 2
		for sign := range lens {
			if lens[sign] == n {
				l[sign] = fmt.Sprintf("%0*b", n, next)
				next++
			}
		}
	}
	return l
}

// checkAll holds what Check, Codes and New answer against the words of the chapter.
func checkAll(t *testing.T, lens []int) {
	t.Helper()
	want := wanted(lens)
	if e := code.Check(lens); e != want {
		t.Fatalf("Check(%s) = %d, want %d", brief(lens), e, want)
	}
	codes, e := code.Codes(lens)
	if e != want {
		t.Fatalf("Codes(%s) = %d, want %d", brief(lens), e, want)
	}
	table, e := code.New(lens)
	if e != want || (table == nil) != (e != api.OK) {
		t.Fatalf("New(%s) = %v, %d, want %d", brief(lens), table != nil, e, want)
	}
	if want != api.OK {
		if len(codes) > 0 {
			t.Fatalf("Codes(%s) = %s beside %d", brief(lens), brief(codes), e)
		}
		return
	}
	if len(codes) != len(lens) {
		t.Fatalf("Codes(%s) are %d codes", brief(lens), len(codes))
	}
	l := words(lens)
	for sign, n := range lens {
		if n > 0 && fmt.Sprintf("%0*b", n, codes[sign]) != l[sign] || n == 0 && codes[sign] != 0 {
			t.Fatalf("Codes(%s): %d has %b, want %s", brief(lens), sign, codes[sign], l[sign])
		}
	}
	checkTable(t, table, lens, l)
}

// checkTable writes and reads each symbol of a code.
func checkTable(t *testing.T, table *code.Table, lens []int, l []string) {
	t.Helper()
	w := bit.New()
	var written []int
	var all strings.Builder
	for sign := -1; sign <= len(lens); sign++ {
		want := api.OK
		switch {
		case sign < 0 || sign == len(lens):
			want = api.ErrArg
		case lens[sign] == 0:
			want = api.ErrCode
		default:
			written = append(written, sign)
			all.WriteString(l[sign])
		}
		if e := table.Write(w, sign); e != want {
			t.Fatalf("%s: Write(%d) = %d, want %d", brief(lens), sign, e, want)
		}
	}
	if got := zerosAndOnes(w.Text()); got[:all.Len()] != all.String() || w.Len() != (all.Len()+7)/8 {
		t.Fatalf("%s: %s is written, want %s", brief(lens), brief(got), brief(all.String()))
	}
	r := bit.From(w.Text())
	for _, sign := range written {
		left := r.Left()
		if got, e := table.Read(r); got != sign || e != api.OK || left-r.Left() != lens[sign] {
			t.Fatalf("%s: Read = %d, %d and %d bits, want %d", brief(lens), got, e, left-r.Left(), sign)
		}
	}
}

// zerosAndOnes returns the bits of a string.
func zerosAndOnes(s string) string {
	var b strings.Builder
	r := bit.From(s)
	for r.Left() > 0 {
		v, _ := r.Low(1)
		b.WriteByte(byte('0' + v))
	}
	return b.String()
}

// lists calls f with each list of n numbers from least to most.
func lists(n, least, most int, f func([]int)) {
	l := make([]int, n)
	var fill func(i int)
	fill = func(i int) {
		if i == n {
			f(l)
			return
		}
		for v := least; v <= most; v++ {
			l[i] = v
			fill(i + 1)
		}
	}
	fill(0)
}

// Promises 10.1, 10.3 and 10.4.
func TestShortCodes(t *testing.T) {
	for n := range 5 {
		lists(n, -1, 5, func(l []int) { checkAll(t, l) })
	}
	lists(6, 0, 4, func(l []int) { checkAll(t, l) })
}

// Promises 10.1, 10.3 and 10.4.
func TestGreatCodes(t *testing.T) {
	great := slices.Concat(filled(224, 8), filled(64, 9))
	for _, l := range [][]int{
		fixed(), great, filled(256, 8), slices.Concat(filled(31, 0), filled(256, 8), []int{0}), filled(128, 7), filled(287, 0), filled(288, 0),
		stairs(15), stairs(14), slices.Concat(filled(270, 0), stairs(15)), slices.Concat(stairs(3), filled(280, 0)), with(filled(288, 0), 287, 1),
		stairs(16), with(stairs(15), 15, 14), with(stairs(15), 15, 0), with(stairs(15), 0, 2), append(stairs(15), 15), {15, 15}, filled(288, 15), filled(288, 1),
		with(great, 287, 8), with(great, 287, 0), with(great, 0, 9), with(great, 100, 16), with(great, 287, -1), with(filled(288, 0), 287, 2), with(filled(288, 0), 3, 15),
		filled(289, 0), append(slices.Clone(great), 0), filled(289, 16), filled(289, 9), filled(1000, -1), {1 << 40}, {-1 << 40}, {1, 1, 1 << 32},
	} {
		checkAll(t, l)
	}
}

// Promise 10.1: a length out of range comes before a code that isn't valid, wherever it stands.
func TestErrorsInOrder(t *testing.T) {
	for _, l := range [][]int{{1, 1, 1, 16}, {16, 1, 1, 1}, {2, -1}, {-1, 1, 1}} {
		if e := code.Check(l); e != api.ErrArg {
			t.Errorf("Check(%v) = %d", l, e)
		}
	}
}

// Promise 10.1.
func TestCost(t *testing.T) {
	for _, c := range []struct {
		lens, counts []int
		want         int
	}{
		{nil, nil, 0}, {[]int{2}, nil, 0}, {nil, []int{2}, 0}, {[]int{2, 0, 3}, []int{5, 7, 11}, 43},
		{[]int{2, 3}, []int{5, 7, 11}, 31}, {[]int{2, 3, 4}, []int{5, 7}, 31},
		{[]int{15, 0, 1}, []int{1, 9, api.MaxInt}, 15 + api.MaxInt},
		{[]int{16, -1, 3}, []int{5, 7, 1}, 3}, {[]int{1, 2, 3}, []int{-1, api.MaxInt + 1, 4}, 12},
		{[]int{1 << 62, 2}, []int{4, 4}, 8}, {[]int{2, 2}, []int{1 << 62, -1 << 62}, 0},
		{filled(1000, 15), filled(1000, api.MaxInt), 15000 * api.MaxInt},
	} {
		if got := code.Cost(c.lens, c.counts); got != c.want {
			t.Errorf("Cost(%s, %s) = %d, want %d", brief(c.lens), brief(c.counts), got, c.want)
		}
	}
}

// Promises 10.1 to 10.3: the examples.
func TestExamples(t *testing.T) {
	if got, e := code.Codes([]int{2, 1, 3, 3}); !slices.Equal(got, []int{2, 0, 6, 7}) || e != api.OK {
		t.Errorf("Codes = %v, %d", got, e)
	}
	counts := []int{5, 0, 1, 1}
	lens, e := code.Lengths(counts, 15)
	if e != api.OK || code.Cost(lens, counts) != 9 {
		t.Errorf("Lengths = %v, %d", lens, e)
	}
}

// Promise 10.3: bits that form no code.
func TestReadErrors(t *testing.T) {
	none, _ := code.New([]int{0, 0})
	empty, _ := code.New(nil)
	single, _ := code.New([]int{0, 1})
	full, _ := code.New([]int{2, 1, 3, 3})
	for _, c := range []struct {
		name  string
		table *code.Table
		text  string
		skip  int
		want  int
		e     api.Errno
		used  int
	}{
		{"no symbol has a code", none, "\x00", 0, 0, api.ErrCode, 0}, {"the same at the end", none, "", 0, 0, api.ErrCode, 0}, {"no symbols", empty, "\xff", 0, 0, api.ErrCode, 0},
		{"single 0", single, "\x02", 0, 1, api.OK, 1}, {"single 1", single, "\x01", 0, 0, api.ErrCode, 1}, {"single at the end", single, "", 0, 0, api.ErrEnd, 0},
		{"full 0", full, "\x80", 7, 0, api.ErrEnd, 1}, {"full 10", full, "\x01", 0, 0, api.OK, 2}, {"full 110", full, "\x03", 0, 2, api.OK, 3}, {"full 111", full, "\x07", 0, 3, api.OK, 3},
		{"11 and the end", full, "\xc0", 6, 0, api.ErrEnd, 2}, {"last symbol", full, "\xe0", 5, 3, api.OK, 3},
	} {
		r := bit.From(c.text)
		r.Low(c.skip)
		left := r.Left()
		if got, e := c.table.Read(r); got != c.want || e != c.e || left-r.Left() != c.used {
			t.Errorf("%s: %d, %d and %d bits, want %d, %d and %d", c.name, got, e, left-r.Left(), c.want, c.e, c.used)
		}
	}
}

// Promise 10.3: a reader or writer of the other order, and none at all.
func TestWrongArguments(t *testing.T) {
	none, _ := code.New([]int{0, 0})
	full, _ := code.New([]int{1, 1, 0})
	high := func() *bit.Reader { r := bit.From("\x00\x00"); r.High(3); return r }
	for _, c := range []struct {
		name  string
		table *code.Table
		r     *bit.Reader
		want  api.Errno
	}{
		{"no table", nil, bit.From("\x00"), api.ErrArg}, {"no reader", full, nil, api.ErrArg}, {"neither", nil, nil, api.ErrArg}, {"no reader nor codes", none, nil, api.ErrArg},
		{"other order", full, high(), api.ErrArg}, {"other order, no codes", none, high(), api.ErrCode},
	} {
		left := c.r.Left()
		if got, e := c.table.Read(c.r); got != 0 || e != c.want || c.r.Left() != left {
			t.Errorf("Read, %s: %d, %d, want %d", c.name, got, e, c.want)
		}
	}
	w := bit.New()
	w.High(1, 3)
	for _, c := range []struct {
		name  string
		table *code.Table
		w     *bit.Writer
		sign  int
		want  api.Errno
	}{
		{"no table", nil, bit.New(), 0, api.ErrArg}, {"no writer", full, nil, 0, api.ErrArg}, {"no writer nor code", full, nil, 2, api.ErrArg}, {"neither", nil, nil, 0, api.ErrArg},
		{"other order", full, w, 0, api.ErrArg}, {"other order, no code", full, w, 2, api.ErrCode}, {"no symbol", full, w, 3, api.ErrArg}, {"negative", full, w, -1, api.ErrArg},
	} {
		size := c.w.Len()
		if e := c.table.Write(c.w, c.sign); e != c.want || c.w.Len() != size {
			t.Errorf("Write, %s: %d, want %d", c.name, e, c.want)
		}
	}
}

// Promise 10.3: a table doesn't change with the list that it is made of.
func TestTableStays(t *testing.T) {
	lens := []int{2, 1, 3, 3}
	table, _ := code.New(lens)
	codes, _ := code.Codes(lens)
	copy(lens, []int{1, 0, 0, 0})
	checkTable(t, table, []int{2, 1, 3, 3}, words([]int{2, 1, 3, 3}))
	if !slices.Equal(codes, []int{2, 0, 6, 7}) {
		t.Errorf("codes become %v", codes)
	}
}

// Promise 10.4.
func TestPrefixes(t *testing.T) {
	for _, lens := range [][]int{fixed(), stairs(15), {2, 1, 3, 3}, {0, 1}} {
		codes, _ := code.Codes(lens)
		for a := range lens {
			for b := range lens {
				if a != b && lens[a] > 0 && lens[a] <= lens[b] && codes[b]>>(lens[b]-lens[a]) == codes[a] {
					t.Errorf("%s: the code of %d begins that of %d", brief(lens), a, b)
				}
			}
		}
	}
}

// Promise 10.4: symbols in a mixed order are read back.
func TestMixedSymbols(t *testing.T) {
	r := rand.New(rand.NewSource(1))
	for _, lens := range [][]int{fixed(), stairs(15), {3, 0, 3, 2, 0, 1}} {
		table, _ := code.New(lens)
		w := bit.New()
		var written []int
		for range 1000 {
			if sign := r.Intn(len(lens)); table.Write(w, sign) == api.OK {
				written = append(written, sign)
			}
		}
		in := bit.From(w.Text())
		for i, sign := range written {
			if got, e := table.Read(in); got != sign || e != api.OK {
				t.Fatalf("%s: symbol %d is %d, %d, want %d", brief(lens), i, got, e, sign)
			}
		}
	}
}
