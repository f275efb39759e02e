package hint_test

import (
	"fmt"
	"strconv"
	"strings"
	"testing"

	"foliant/api"
)

// pick chooses a number from 0 to below, not included.
func pick(seed *uint32, below int) int {
	*seed = *seed*1664525 + 1013904223
	return int(*seed>>8) % below
}

// columnsOf returns the numbers of a list by their columns.
func columnsOf(l []api.Hint) [][]int {
	all := make([][]int, 3)
	for _, h := range l {
		all[0], all[1], all[2] = append(all[0], h.Objects), append(all[1], h.Bytes), append(all[2], h.At)
	}
	return all
}

// packBits returns the bytes of a text of binary digits.
func packBits(digits string) string {
	var s []byte
	for at := 0; at < len(digits); at += 8 {
		n, _ := strconv.ParseUint((digits[at:] + "0000000")[:8], 2, 8)
		s = append(s, byte(n))
	}
	return string(s)
}

// encoding encodes a list by the words of the chapter, in binary digits.
func encoding(l []api.Hint) string {
	head, widths, tail := fmt.Sprintf("%032b", len(l)), "", ""
	for _, column := range columnsOf(l) {
		least, most := column[0], column[0]
		for _, n := range column {
			least, most = min(least, n), max(most, n)
		}
		width, digits := 0, ""
		for most-least >= 1<<width {
			width++
		}
		for _, n := range column {
			if width > 0 {
				digits += fmt.Sprintf("%0*b", width, n-least)
			}
		}
		head += fmt.Sprintf("%032b", least)
		widths += fmt.Sprintf("%016b", width)
		tail += packBits(digits)
	}
	return packBits(head+widths) + tail
}

// number returns the number of binary digits from one place to another.
func number(digits string, from, to int) int {
	n, _ := strconv.ParseInt("0"+digits[from:to], 2, 64)
	return int(n)
}

// read reads a list by the words of the chapter: the only one that the numbers in s allow, if it has the encoding s.
func read(s string) []api.Hint {
	if len(s) < 22 {
		return nil
	}
	var text strings.Builder
	for i := range len(s) {
		fmt.Fprintf(&text, "%08b", s[i])
	}
	digits := text.String()
	pages := number(digits, 0, 32)
	if pages < 1 || pages > api.MaxPages {
		return nil
	}
	l := make([]api.Hint, pages)
	at := 22 * 8
	for c := range 3 {
		least, width := number(digits, 32+32*c, 64+32*c), number(digits, 128+16*c, 144+16*c)
		if width > 30 || at+width*pages > len(digits) {
			return nil
		}
		for p := range l {
			*[]*int{&l[p].Objects, &l[p].Bytes, &l[p].At}[c] = least + number(digits, at, at+width)
			at += width
		}
		at = (at + 7) / 8 * 8
	}
	for _, h := range l {
		if h.Objects > api.MaxNum || h.Bytes > api.MaxFile || h.At > api.MaxFile {
			return nil
		}
	}
	if encoding(l) != s {
		return nil
	}
	return l
}

// reads checks what is read from a text, and tells whether that is a list.
func reads(t *testing.T, s string) bool {
	t.Helper()
	want := read(s)
	if want == nil {
		unread(t, s)
		return false
	}
	encodes(t, want, s)
	return true
}

// randomList makes a list of so many hints, whose numbers differ by less than given.
func randomList(seed *uint32, pages int, spread [3]int) []api.Hint {
	least := [3]int{pick(seed, api.MaxNum+2-spread[0]), pick(seed, api.MaxFile+2-spread[1]), pick(seed, api.MaxFile+2-spread[2])}
	l := make([]api.Hint, pages)
	for i := range l {
		l[i] = api.Hint{Objects: least[0] + pick(seed, spread[0]), Bytes: least[1] + pick(seed, spread[1]), At: least[2] + pick(seed, spread[2])}
	}
	return l
}

// Promises 32.2 and 32.3, by the words of the chapter.
func TestWords(t *testing.T) {
	seed := uint32(32)
	for n := range 400 {
		spread := [3]int{1 + pick(&seed, 1<<pick(&seed, 13)), 1 + pick(&seed, 1<<pick(&seed, 20)), 1 + pick(&seed, 1<<pick(&seed, 20))}
		pages := 1 + pick(&seed, 40)
		if n%100 == 0 {
			pages = api.MaxPages - pick(&seed, 9)
		}
		l := randomList(&seed, pages, spread)
		encodes(t, l, encoding(l))
	}
}

// Promise 32.2, by the words of the chapter: damaged encodings.
func TestDamage(t *testing.T) {
	seed := uint32(33)
	good, bad := 0, 0
	for range 300 {
		l := randomList(&seed, 1+pick(&seed, 5), [3]int{1 + pick(&seed, 9), 1 + pick(&seed, 300), 1 + pick(&seed, 70000)})
		s := encoding(l)
		for range 60 {
			b := []byte(s)
			for range 1 + pick(&seed, 2) {
				at := pick(&seed, len(b))
				switch pick(&seed, 4) {
				case 0:
					b[at] ^= 1 << pick(&seed, 8)
				case 1:
					b[at] = byte(pick(&seed, 256))
				case 2:
					b = append(b[:at], b[at+1:]...)
				case 3:
					b = append(b, byte(pick(&seed, 3)))
				}
			}
			if reads(t, string(b)) {
				good++
			} else {
				bad++
			}
		}
	}
	if good < 1000 || bad < 1000 {
		t.Errorf("%d encodings and %d others", good, bad)
	}
}
