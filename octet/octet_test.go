package octet_test

import (
	"math"
	"strconv"
	"strings"
	"testing"

	"foliant/api"
	"foliant/octet"
)

// texts returns all texts over the given bytes of up to most bytes.
func texts(bytes string, most int) []string {
	list := []string{""}
	from := 0
	for range most {
		to := len(list)
		for _, s := range list[from:to] {
			for i := range len(bytes) {
				list = append(list, s+bytes[i:i+1])
			}
		}
		from = to
	}
	return list
}

// Promises 1.1 and 1.5.
func TestClasses(t *testing.T) {
	for i := range 256 {
		c := byte(i)
		white := c == 0 || c == 9 || c == 10 || c == 12 || c == 13 || c == 32
		delim := c == '(' || c == ')' || c == '<' || c == '>' || c == '[' || c == ']' || c == '{' || c == '}' || c == '/' || c == '%'
		if octet.White(c) != white || octet.Delim(c) != delim || octet.Regular(c) != (!white && !delim) {
			t.Errorf("byte %d: White %v, Delim %v, Regular %v", i, octet.White(c), octet.Delim(c), octet.Regular(c))
		}
	}
}

// Promise 1.1.
func TestDigit(t *testing.T) {
	for i := range 256 {
		want := -1
		if n, err := strconv.ParseUint(string([]byte{byte(i)}), 16, 8); err == nil {
			want = int(n)
		}
		if got := octet.Digit(byte(i)); got != want {
			t.Errorf("Digit(%d) = %d, want %d", i, got, want)
		}
	}
}

// Promises 1.2 and 1.5.
func TestHex(t *testing.T) {
	all, want := "", ""
	for i := range 256 {
		s := string([]byte{byte(i)})
		digits := strings.ToUpper(strconv.FormatInt(int64(256+i), 16)[1:])
		if got := octet.Hex(s); got != digits {
			t.Errorf("Hex(%d) = %q, want %q", i, got, digits)
		}
		all, want = all+s, want+digits
	}
	if octet.Hex(all) != want || octet.Hex("") != "" {
		t.Error("Hex of all bytes, or of none, is wrong")
	}
	for _, digits := range []string{want, strings.ToLower(want)} {
		if got, e := octet.Unhex(digits); got != all || e != api.OK {
			t.Errorf("Unhex does not invert Hex: error %d", e)
		}
	}
	if got, e := octet.Unhex("aAfF"); got != "\xaa\xff" || e != api.OK {
		t.Errorf("Unhex of both cases = %q, %d", got, e)
	}
	if got, e := octet.Unhex(""); got != "" || e != api.OK {
		t.Errorf("Unhex of nothing = %q, %d", got, e)
	}
}

// Promise 1.2.
func TestUnhexWrong(t *testing.T) {
	list := []string{"4", "414", "4g", "g4", "414/", "41:0", "41@0", "41`0", " 41 ", "4 1", "+1", "-1", "0x", "\x004", "é"}
	for i := range 256 {
		if octet.Digit(byte(i)) < 0 {
			list = append(list, "41"+string([]byte{byte(i), '0'}), "41"+string([]byte{'0', byte(i)}))
		}
	}
	for _, s := range list {
		if got, e := octet.Unhex(s); got != "" || e != api.ErrForm {
			t.Errorf("Unhex(%q) = %q, %d", s, got, e)
		}
	}
}

// occurs tells at which offsets part occurs in s, byte by byte.
func occurs(s, part string) []int {
	var list []int
	for at := 0; at+len(part) <= len(s); at++ {
		if s[at:at+len(part)] == part {
			list = append(list, at)
		}
	}
	return list
}

// Promise 1.3.
func TestSearch(t *testing.T) {
	parts := texts("ab", 3)
	for _, s := range texts("ab", 6) {
		for _, part := range parts {
			checkSearch(t, s, part)
		}
	}
}

func checkSearch(t *testing.T, s, part string) {
	t.Helper()
	at := occurs(s, part)
	last := -1
	if part != "" && len(at) > 0 {
		last = at[len(at)-1]
	}
	if got := octet.Last(s, part); got != last {
		t.Fatalf("Last(%q, %q) = %d, want %d", s, part, got, last)
	}
	for from := -2; from <= len(s)+2; from++ {
		first, here := -1, false
		for i := len(at) - 1; i >= 0; i-- {
			if part != "" && at[i] >= from {
				first = at[i]
			}
			here = here || at[i] == from
		}
		if got := octet.Find(s, part, from); got != first {
			t.Fatalf("Find(%q, %q, %d) = %d, want %d", s, part, from, got, first)
		}
		if got := octet.Begins(s, part, from); got != here {
			t.Fatalf("Begins(%q, %q, %d) = %v, want %v", s, part, from, got, here)
		}
	}
}

// Promise 1.3.
func TestSearchEdges(t *testing.T) {
	if octet.Find("ab", "a", math.MinInt) != 0 || octet.Find("ab", "a", math.MaxInt) != -1 || octet.Find("ab", "", 1) != -1 || octet.Last("ab", "") != -1 || octet.Last("", "a") != -1 {
		t.Error("Find or Last is wrong at an edge")
	}
	if !octet.Begins("", "", 0) || octet.Begins("", "", 1) || octet.Begins("a", "", -1) || octet.Begins("a", "a", math.MaxInt) || octet.Begins("a", "a", math.MinInt) {
		t.Error("Begins is wrong at an edge")
	}
	if got := octet.Find("\xff\x00\xff\x01", "\xff\x01", 0); got != 2 {
		t.Errorf("Find does not compare bytes: %d", got)
	}
}

// skipped follows the words of the document: it marks each byte that is white or part of a comment, and looks for the first unmarked one.
func skipped(s string, at int) int {
	comment := false
	for ; at < len(s); at++ {
		c := s[at]
		switch {
		case c == '\n' || c == '\r':
			comment = false
		case c == '%':
			comment = true
		case !comment && strings.IndexByte("\x00\t\f ", c) < 0:
			return at
		}
	}
	return len(s)
}

// lined looks for the first end of line that starts at or after at.
func lined(s string, at int) int {
	for ; at < len(s); at++ {
		if strings.HasPrefix(s[at:], "\r\n") {
			return at + 2
		}
		if s[at] == '\r' || s[at] == '\n' {
			return at + 1
		}
	}
	return len(s)
}

// Promises 1.4 and 1.5.
func TestSkipAndLine(t *testing.T) {
	for _, s := range texts("a% \r\n", 5) {
		for at := range len(s) + 1 {
			got := octet.Skip(s, at)
			if want := skipped(s, at); got != want {
				t.Fatalf("Skip(%q, %d) = %d, want %d", s, at, got, want)
			}
			if got < len(s) && (octet.White(s[got]) || s[got] == '%') {
				t.Fatalf("Skip(%q, %d) stops at %q", s, at, s[got])
			}
			if got, want := octet.Line(s, at), lined(s, at); got != want {
				t.Fatalf("Line(%q, %d) = %d, want %d", s, at, got, want)
			}
		}
	}
	for i := range 256 {
		s := string([]byte{byte(i), 'x'})
		if got, want := octet.Skip(s, 0), skipped(s, 0); got != want {
			t.Errorf("Skip(%q, 0) = %d, want %d", s, got, want)
		}
		if got, want := octet.Line(s, 0), lined(s, 0); got != want {
			t.Errorf("Line(%q, 0) = %d, want %d", s, got, want)
		}
	}
}

// Promise 1.4.
func TestSkipAndLineOutside(t *testing.T) {
	for _, s := range []string{"", "ab", " \n", "%"} {
		for _, at := range []int{math.MinInt, -1, len(s) + 1, math.MaxInt} {
			if octet.Skip(s, at) != at || octet.Line(s, at) != at {
				t.Errorf("Skip or Line of %q at %d is not %d", s, at, at)
			}
		}
	}
	if octet.Skip("(%)\n a", 1) != 5 || octet.Skip("%(a", 1) != 1 {
		t.Error("Skip does not ignore the bytes before the offset")
	}
	long := strings.Repeat("% x\r\n", 1<<18)
	if octet.Skip(long+"a", 0) != len(long) || octet.Line(strings.Repeat("a", 1<<20)+"\n", 0) != 1<<20+1 {
		t.Error("Skip or Line is wrong in a long text")
	}
}
