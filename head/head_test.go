package head_test

import (
	"math"
	"slices"
	"strconv"
	"strings"
	"testing"

	"foliant/api"
	"foliant/head"
)

// Promise 17.1.
func TestVersion(t *testing.T) {
	far := strings.Repeat("x", 1016)
	for _, c := range []struct {
		s     string
		minor int
	}{
		{"%PDF-1.4", 4}, {"%PDF-1.4\n%\xe2\xe3", 4}, {"%PDF-1.0", 0}, {"%PDF-1.9", 9}, {"%PDF-1.45", 4}, {"%PDF-1.7x", 7},
		{"\n%PDF-1.3", 3}, {"%%PDF-1.3", 3}, {"%PD%PDF-1.2", 2}, {"%PDF%PDF-1.2", 2}, {"%pdf-1.1%PDF-1.2", 2}, {"%PDF-1.1%PDF-1.2", 1},
		{far + "%PDF-1.6", 6}, {far[1:] + "%PDF-1.6%PDF-1.5", 6}, {"%PDF-1.5" + far + "%PDF-2.0", 5},
	} {
		if major, minor, e := head.Version(c.s); major != 1 || minor != c.minor || e != api.OK {
			t.Errorf("Version(%q) = %d, %d, %d, want 1, %d", c.s, major, minor, e, c.minor)
		}
	}
	for _, s := range []string{
		"", "%", "%PDF", "%PDF-", "%PDF-1", "%PDF-1.", "%PDF-.4", "%PDF-4", "PDF-1.4", "%PDF 1.4", "%PDF- 1.4", "%PDF-1 .4", "%PDF-1. 4", "%PDF-1,4", "%PDF-1..4",
		"%PDF-2.0", "%PDF-0.4", "%PDF-11.4", "%PDF-01.4", "%PDF-+1.4", "%pdf-1.4", "%PDF-1.x", "%PDF-1.a", "%PDF-1.F", "%PDF-1.-1",
		"%PDF-2.0%PDF-1.4", "%PDF-%PDF-1.4", "%PDF-1.%PDF-1.4", far + "x%PDF-1.6", far + "x", far + far + "%PDF-1.6", "%PDF-" + far,
	} {
		if major, minor, e := head.Version(s); major != 0 || minor != 0 || e != api.ErrHead {
			t.Errorf("Version(%q) = %d, %d, %d, want ErrHead", s, major, minor, e)
		}
	}
	for c := range 256 {
		want := api.ErrHead
		if c >= '0' && c <= '9' {
			want = api.OK
		}
		if _, minor, e := head.Version("%PDF-1." + string([]byte{byte(c)})); e != want || e == api.OK && minor != c-'0' {
			t.Errorf("Version with the byte %d = %d, %d", c, minor, e)
		}
	}
}

// Promise 17.1.
func TestText(t *testing.T) {
	for minor := range 10 {
		want := "%PDF-1." + strconv.Itoa(minor) + "\n%" + string([]byte{226, 227, 207, 211}) + "\n"
		s, e := head.Text(minor)
		if s != want || e != api.OK {
			t.Errorf("Text(%d) = %q, %d", minor, s, e)
		}
		if major, got, e := head.Version(s + "1 0 obj"); major != 1 || got != minor || e != api.OK {
			t.Errorf("Version of Text(%d) = %d, %d, %d", minor, major, got, e)
		}
	}
	for _, minor := range []int{-1, 10, 11, 100, math.MinInt, math.MaxInt} {
		if s, e := head.Text(minor); s != "" || e != api.ErrRange {
			t.Errorf("Text(%d) = %q, %d, want ErrRange", minor, s, e)
		}
	}
}

// Promise 17.2.
func TestStart(t *testing.T) {
	far := strings.Repeat(" ", 300)
	for _, c := range []struct {
		s    string
		want int
	}{
		{"startxref 0", 0}, {"startxref\n0\n%%EOF\n", 0}, {"startxref0", 0}, {"startxref+5", 5}, {"startxref-0", 0}, {"startxref 007%", 7}, {"xstartxref 3", 3}, {"startxref 3)", 3}, {"startxref 3/A", 3},
		{"startxref%\n1", 1}, {"startxref % a\r\n \x00\t\f 1(", 1}, {"startxref %%EOF\n4", 4}, {"(startxref 3", 3}, {"%startxref 3", 3},
		{"startxref 11", 11}, {"startxref 1\nstartxref 2", 2}, {"startxref x startxref 2", 2}, {"startxrefstartxref 2", 2}, {"startxref 2 startxre 3", 2}, {"startxref 2 Startxref 3", 2},
		{far + "startxref 312", 312}, {far + "startxref " + far + "300", 300},
	} {
		if got, e := head.Start(c.s); got != c.want || e != api.OK {
			t.Errorf("Start(%q) = %d, %d, want %d", c.s, got, e, c.want)
		}
	}
	for _, s := range []string{
		"", "0", "xref 0", "startxre 0", "start xref 0", "STARTXREF 0", "startxref", "startxref ", "startxref\n%%EOF\n", "startxref %0", "startxref % 0",
		"startxref x", "startxref x 0", "startxrefs 0", "startxref 0x", "startxref 1.0", "startxref 0.", "startxref /0", "startxref (0)", "startxref <30>", "startxref [0]", "startxref << 0", "startxref ) 0", "startxref (0", "startxref /#0 0",
		"startxref -1", "startxref 12", "startxref 999", "startxref 2147483647", "startxref 2147483648", "startxref 99999999999999999999", "startxref -2147483648", "startxref 18446744073709551616",
		"startxref 0 startxref", "startxref 0 startxref x", "startxref 0 startxref 99", "startxref 0 startxref -1", far + "startxref 313",
	} {
		if got, e := head.Start(s); got != 0 || e != api.ErrStart {
			t.Errorf("Start(%q) = %d, %d, want ErrStart", s, got, e)
		}
	}
}

// Promise 17.2.
func TestTail(t *testing.T) {
	for at, want := range map[int]string{
		0: "startxref\n0\n%%EOF\n", 5: "startxref\n5\n%%EOF\n", 1048576: "startxref\n1048576\n%%EOF\n", api.MaxInt: "startxref\n2147483647\n%%EOF\n",
		-1: "", -5: "", -api.MaxInt: "", api.MaxInt + 1: "", math.MinInt: "", math.MaxInt: "",
	} {
		if got := head.Tail(at); got != want {
			t.Errorf("Tail(%d) = %q, want %q", at, got, want)
		}
	}
}

// slowEnds returns what Ends should, by the words of the chapter.
func slowEnds(s string) []int {
	var list []int
	for p := range s {
		if !strings.HasPrefix(s[p:], "%%EOF") || p > 0 && s[p-1] != '\n' && s[p-1] != '\r' {
			continue
		}
		end := p + 5
		for end < len(s) && s[end] != '\n' && s[end] != '\r' {
			end++
		}
		if strings.HasPrefix(s[end:], "\r\n") {
			end++
		}
		list = append(list, min(end+1, len(s)))
	}
	return list
}

// Promise 17.3.
func TestEnds(t *testing.T) {
	for s, want := range map[string][]int{
		"%%EOF\nx": {6}, "%%EOF": {5}, "%%EOF\r\nx": {7}, "%%EOF\r": {6}, "%%EOF\n\r": {6}, "x\n%%EOF\n": {8}, "x\r%%EOF\n": {8}, "x\r\n%%EOF\n": {9},
		"%%EOF\n%%EOF\r\n%%EOF": {6, 13, 18}, "%%EOF x\n%%EOF\n": {8, 14}, "%%EOF%%EOF\n": {11}, "%%EOFx": {6}, "%%EOF%": {6},
		"": nil, "x": nil, "\n": nil, " %%EOF": nil, "x%%EOF\n": nil, "%%%EOF": nil, "%%EO": nil, "%%eof\n": nil, "%EOF": nil, "\t%%EOF": nil, "\x00%%EOF": nil, "\f%%EOF\n": nil, "\n%%EOF": {6},
	} {
		if got := head.Ends(s); !slices.Equal(got, want) {
			t.Errorf("Ends(%q) = %v, want %v", s, got, want)
		}
	}
	parts := []string{"%%EOF", "\n", "\r", "x", "%", "%%EO", " "}
	for n := range 7 * 7 * 7 * 7 * 7 * 7 {
		s := ""
		for ; n > 0; n /= 7 {
			s += parts[n%7]
		}
		if got, want := head.Ends(s), slowEnds(s); !slices.Equal(got, want) {
			t.Fatalf("Ends(%q) = %v, want %v", s, got, want)
		}
	}
	many := strings.Repeat("%%EOF\n", api.MaxFile/6)
	if got := head.Ends(many); len(got) != api.MaxFile/6 || got[0] != 6 || got[len(got)-1] != len(many) {
		t.Errorf("Ends of many marks has %d", len(got))
	}
}

// Promise 17.4.
func TestTailIsRead(t *testing.T) {
	for _, s := range []string{"", "x", "abcdefghij", "startxref 3 %%EOF", "%%EOF\n", "\n%%EOF", "(startxref", "%", strings.Repeat("x", 1000)} {
		for _, n := range []int{0, 5, 9, 10, 25, 26, 27, 28, 999, 1023, api.MaxInt} {
			whole := s + head.Tail(n)
			at, e := head.Start(whole)
			if n < len(whole) && (at != n || e != api.OK) || n >= len(whole) && (at != 0 || e != api.ErrStart) {
				t.Errorf("Start of %q and Tail(%d) = %d, %d", s, n, at, e)
			}
			if ends := head.Ends(whole); ends[len(ends)-1] != len(whole) {
				t.Errorf("Ends of %q and Tail(%d) = %v", s, n, ends)
			}
		}
	}
}
