package table_test

import (
	"fmt"
	"math"
	"slices"
	"strconv"
	"strings"
	"testing"

	"foliant/api"
	"foliant/parse"
	"foliant/sample"
	"foliant/table"
	"foliant/value"
)

// brief shows the beginning of anything.
func brief(x any) string { return fmt.Sprintf("%.300s", fmt.Sprintf("%q", fmt.Sprint(x))) }

// same reports whether two sections are equal.
func same(a, b api.Section) bool {
	return a.At == b.At && slices.Equal(a.Slots, b.Slots) && value.Same(a.Trailer, b.Trailer) && a.Prev == b.Prev && a.Hybrid == b.Hybrid && a.Own == b.Own
}

// checkRead holds what Read answers at offset at against what it should.
func checkRead(t *testing.T, s string, at int, want api.Section, wantTo int, wantErr api.Errno) {
	t.Helper()
	got, to, e := table.Read(s, at)
	if !same(got, want) || to != wantTo || e != wantErr {
		t.Errorf("Read(%s, %d) = %s, %d, %d, want %s, %d, %d", brief(s), at, brief(got), to, e, brief(want), wantTo, wantErr)
	}
}

// free and plain return entries.
func free(num, a, b int) api.Slot { return api.Slot{Num: num, Kind: api.SlotFree, A: a, B: b} }

func plain(num, a, b int) api.Slot { return api.Slot{Num: num, Kind: api.SlotPlain, A: a, B: b} }

// section returns a section without an end of its chain.
func section(slots ...api.Slot) api.Section {
	return api.Section{Slots: slots, Trailer: sample.Dict(""), Prev: -1, Hybrid: -1}
}

// Promise 18.1.
func TestRead(t *testing.T) {
	for _, c := range []struct {
		s    string
		want api.Section
	}{
		{"xref\r\n0 1\n0000000000 65535 f \ntrailer<<>>", section(free(0, 0, 65535))},
		{"xref trailer<<>>", section()},
		{"xref\ntrailer\n<< >>", section()},
		{"xref 0 0 trailer<<>>", section()},
		{"xref 8191 0 0 0 7 0 trailer<<>>", section()},
		{"xref 0 3 0 65535 f 17 0 n 99 1 n trailer<<>>", section(free(0, 0, 65535), plain(1, 17, 0), plain(2, 99, 1))},
		{"xref 5 1 1 2 n 0 0 1 2 3 4 f 5 6 n trailer<<>>", section(free(1, 3, 4), plain(2, 5, 6), plain(5, 1, 2))},
		{"xref 3 1 1 1 n 2 1 2 2 f 1 1 3 3 n trailer<<>>", section(plain(1, 3, 3), free(2, 2, 2), plain(3, 1, 1))},
		{"xref%\n+1%\r1%x\n00017%\n-0%\nn%\ntrailer%\n<<%\n>>", section(plain(1, 17, 0))},
		{"xref 8191 1 2147483647 65535 n trailer<<>>", section(plain(8191, 2147483647, 65535))},
		{"xref 8190 2 0 0 n 2147483647 0 f trailer<<>>", section(plain(8190, 0, 0), free(8191, 2147483647, 0))},
		{"xref 0 1 7 0 n trailer<<>>", section(plain(0, 7, 0))},
	} {
		checkRead(t, c.s, 0, c.want, len(c.s), api.OK)
		c.want.At = 3
		for _, tail := range []string{"\nstartxref", " )", "trailer<<", ">>"} {
			checkRead(t, "xre"+c.s+tail, 3, c.want, 3+len(c.s), api.OK)
		}
	}
}

// Promise 18.1: what the trailer tells.
func TestReadTrailer(t *testing.T) {
	for _, c := range []struct {
		s            string
		prev, hybrid int
	}{
		{"<<>>", -1, -1}, {"<</Prev 0>>", 0, -1}, {"<</XRefStm 0>>", -1, 0}, {"<</Prev 17/XRefStm 4>>", 17, 4}, {"<</Prev 2147483647/XRefStm 2147483647/Size 2/Root 1 0 R>>", api.MaxInt, api.MaxInt},
		{"<</Prev null/XRefStm null>>", -1, -1}, {"<</prev -1/Xrefstm/A/A<</Prev -1>>>>", -1, -1}, {"<</Size -1/Root 7/W[1 2]/Z(s)>>", -1, -1},
	} {
		trailer, e := parse.Whole(c.s)
		if e != api.OK {
			t.Fatalf("%s: %d", c.s, e)
		}
		text := "xref 1 1 2 3 n trailer" + c.s
		checkRead(t, text, 0, api.Section{Slots: []api.Slot{plain(1, 2, 3)}, Trailer: trailer, Prev: c.prev, Hybrid: c.hybrid}, len(text), api.OK)
	}
	for _, s := range []string{
		"", " ", "%<<>>", "1", "[]", "null", "(a)", "/A", "1 0 R", "x", "<<", "<</A", "<</A>>", "<</A 1/A 1>>", "<<]", ">>", ")", "(", "<</A )>>", "<</A 99999999999>>", "startxref <<>>",
		"<</Prev -1>>", "<</Prev 1.0>>", "<</Prev 1 0 R>>", "<</Prev/A>>", "<</Prev[1]>>", "<</Prev true>>", "<</Prev<<>>>>", "<</Prev(1)>>", "<</Prev -2147483647>>", "<</Prev 2147483648>>",
		"<</XRefStm -1>>", "<</XRefStm 1.0>>", "<</XRefStm 1 0 R>>", "<</XRefStm/A>>", "<</Prev 1/XRefStm[1]>>", "<</Prev -1/XRefStm 1>>", "<</XRefStm 2147483648>>",
		strings.Repeat("<</A", api.MaxDepth) + "<<",
	} {
		checkRead(t, "xref 1 1 2 3 n trailer "+s, 0, api.Section{}, 0, api.ErrTable)
	}
}

// Promise 18.1: where a table begins.
func TestReadPlace(t *testing.T) {
	const s = " xref trailer<<>>"
	want := section()
	want.At = 1
	checkRead(t, s, 1, want, len(s), api.OK)
	for _, at := range []int{math.MinInt, -1, 0, 2, 5, 6, len(s) - 1, len(s), len(s) + 1, math.MaxInt} {
		checkRead(t, s, at, api.Section{}, 0, api.ErrTable)
	}
	for _, s := range []string{"", "x", "xre", "xref", "xref ", "xrefs trailer<<>>", "xref0 0 trailer<<>>", "xref#41 trailer<<>>", "Xref trailer<<>>", "/xref trailer<<>>", "(xref) trailer<<>>", "%\nxref trailer<<>>", "trailer<<>>", "1 0 obj <<>> endobj"} {
		checkRead(t, s, 0, api.Section{}, 0, api.ErrTable)
	}
}

// Promise 18.1: numbers out of their bounds, and tokens that are none.
func TestReadNumbers(t *testing.T) {
	for _, s := range []string{
		"8192 0", "-1 0", "-1 1 0 0 n", "0 -1", "0 -2147483647", "8191 2 0 0 n 0 0 n", "8190 3 0 0 n 0 0 n 0 0 n", "0 8193", "1 8192", "0 2147483647", "2147483647 2147483647", "8191 2147483647", "2147483648 0", "0 2147483648",
		"0. 0", "0 0.", "0.0 1 0 0 n", "0 1.0 0 0 n", "(0) 0", "/0 0", "0 /0", "[0 0]", "x 0", "0 x", "0", "n", "f", "0 0 x", "0 0 n", "0 0 0", ")", "0 )", "(", "0 (",
		"1 1 -1 0 n", "1 1 0 -1 n", "1 1 0 65536 n", "1 1 2147483648 0 n", "1 1 0 2147483648 n", "1 1 0. 0 n", "1 1 0 0. n", "1 1 x 0 n", "1 1 0 x n", "1 1 n", "1 1 0 n", "1 1 0 n 0", "1 1 0 0 0", "1 1 0 0 N", "1 1 0 0 F", "1 1 0 0 nf", "1 1 0 0 /n", "1 1 0 0 (n)", "1 1 0 0 x", "1 1 0 0", "1 1", "1 2 0 0 n", "1 1 0 0 n 0 0 n", "1 1 0 0n", "1 1 0 0 )", "1 1 ( 0 n", "1 1 0 0 <n",
		"1 1 0 0 trailer", "1 1 trailer", "1 trailer", "startxref",
		"1 1 0 0 n 1 1 0 0 n", "0 2 0 0 n 0 0 n 1 1 0 0 n", "1 1 0 0 n 0 2 0 0 n 0 0 n", "5 1 0 0 f 4 2 0 0 f 0 0 n", "8191 1 0 0 n 8191 1 0 0 n", "0 1 0 0 f 0 1 0 0 f",
	} {
		checkRead(t, "xref "+s+" trailer<<>>", 0, api.Section{}, 0, api.ErrTable)
	}
}

// Promise 18.1: a table of all numbers, and one of a great many subsections.
func TestReadLong(t *testing.T) {
	var whole, back, empty strings.Builder
	whole.WriteString("xref 0 8192")
	back.WriteString("xref ")
	want := section()
	for num := range api.MaxNum + 1 {
		whole.WriteString("\n" + strconv.Itoa(num*10) + " 0 n")
		back.WriteString(strconv.Itoa(api.MaxNum-num) + " 1 " + strconv.Itoa(10*(api.MaxNum-num)) + " 0 n ")
		want.Slots = append(want.Slots, plain(num, num*10, 0))
	}
	empty.WriteString("xref" + strings.Repeat(" 7 0", api.MaxFile/4))
	whole.WriteString(" trailer<<>>")
	back.WriteString(" trailer<<>>")
	empty.WriteString(" trailer<<>>")
	checkRead(t, whole.String(), 0, want, whole.Len(), api.OK)
	checkRead(t, back.String(), 0, want, back.Len(), api.OK)
	checkRead(t, empty.String(), 0, section(), empty.Len(), api.OK)
	checkRead(t, "xref"+strings.Repeat(" 0 8192 0 0 n", api.MaxFile/13), 0, api.Section{}, 0, api.ErrTable)
	checkRead(t, "xref%"+strings.Repeat("x", api.MaxFile), 0, api.Section{}, 0, api.ErrTable)
}

// slowRead reads a table by the words of the chapter, and returns how many of the tokens it has, or 0 if there is none.
func slowRead(list []string) (slots []api.Slot, size int) {
	if len(list) == 0 || list[0] != "xref" {
		return nil, 0
	}
	number := func(i, most int) int {
		if i >= len(list) {
			return -1
		}
		n, err := strconv.Atoi(list[i])
		if err != nil || n > most {
			return -1
		}
		return n
	}
	i := 1
	for i < len(list) && list[i] != "trailer" {
		from, count := number(i, api.MaxNum), number(i+1, api.MaxNum+1)
		if from < 0 || count < 0 || from+count > api.MaxNum+1 {
			return nil, 0
		}
		i += 2
		for num := from; num < from+count; num++ {
			a, b := number(i, api.MaxInt), number(i+1, api.MaxGen)
			if a < 0 || b < 0 || i+2 >= len(list) || list[i+2] != "n" && list[i+2] != "f" {
				return nil, 0
			}
			one := plain(num, a, b)
			if list[i+2] == "f" {
				one.Kind = api.SlotFree
			}
			if slices.ContainsFunc(slots, func(s api.Slot) bool { return s.Num == num }) {
				return nil, 0
			}
			slots = append(slots, one)
			i += 3
		}
	}
	slices.SortFunc(slots, func(a, b api.Slot) int { return a.Num - b.Num })
	if i+2 >= len(list) || list[i+1] != "<<" || list[i+2] != ">>" {
		return nil, 0
	}
	return slots, i + 3
}

// checkTokens holds what Read answers for the text with the given tokens against what slowRead does, and with it the other ways to lay them out.
func checkTokens(t *testing.T, list []string) bool {
	t.Helper()
	slots, size := slowRead(list)
	for _, space := range []string{" ", "\n", " %x\r\n\t"} {
		s := strings.Join(list, space)
		if size > 0 {
			checkRead(t, s, 0, section(slots...), len(strings.Join(list[:size], space)), api.OK)
		} else {
			checkRead(t, s, 0, api.Section{}, 0, api.ErrTable)
		}
	}
	return size > 0
}

// Promise 18.1: tables with tokens left out, put in, exchanged or repeated.
func TestReadTokens(t *testing.T) {
	signs := []string{"xref", "0", "1", "2", "3", "-1", "8191", "8192", "65535", "65536", "n", "f", "x", "trailer", "<<", ">>", "1."}
	right := 0
	try := func(list []string) {
		if checkTokens(t, list) {
			right++
		}
	}
	for _, s := range []string{"xref trailer << >>", "xref 0 1 0 65535 f trailer << >>", "xref 0 2 0 65535 f 17 0 n 3 1 99 1 n trailer << >>", "xref 3 1 9 9 n 0 0 0 2 5 5 n 6 6 f trailer << >>"} {
		list := strings.Fields(s)
		for i := range list {
			try(slices.Delete(slices.Clone(list), i, i+1))
			try(list[:i])
			try(list[i:])
			for _, sign := range signs {
				try(slices.Insert(slices.Clone(list), i, sign))
				changed := slices.Clone(list)
				changed[i] = sign
				try(changed)
				for j := range i {
					twice := slices.Clone(changed)
					twice[j] = sign
					try(twice)
				}
			}
		}
		try(list)
	}
	if right < 100 {
		t.Errorf("only %d of the tables were right", right)
	}
}
