package plain_test

import (
	"math"
	"slices"
	"strconv"
	"strings"
	"testing"

	"foliant/api"
	"foliant/fix"
	"foliant/lex"
	"foliant/octet"
	"foliant/plain"
)

// bytes returns the 256 bytes as texts.
func bytes() []string {
	var list []string
	for i := range 256 {
		list = append(list, string([]byte{byte(i)}))
	}
	return list
}

// token checks that s is a single token of the given kind and value.
func token(t *testing.T, s string, e api.Errno, kind int, n int64, text string) {
	t.Helper()
	want := api.Token{Kind: kind, To: len(s), N: n, S: text}
	if got, err := lex.Next(s, 0); e != api.OK || err != api.OK || got != want {
		t.Errorf("%q (error %d) is the token %+v, %d, want %+v", s, e, got, err, want)
	}
}

// failed checks that there is an error and nothing else.
func failed(t *testing.T, what, s string, e, want api.Errno) {
	t.Helper()
	if s != "" || e != want {
		t.Errorf("%s = %q, %d, want error %d", what, s, e, want)
	}
}

// Promises 4.1 and 4.6.
func TestNumbers(t *testing.T) {
	for n, want := range map[int64]string{0: "0", 7: "7", -7: "-7", 100: "100", api.MaxInt: "2147483647", -api.MaxInt: "-2147483647"} {
		s, e := plain.Int(n)
		if s != want {
			t.Errorf("Int(%d) = %q", n, s)
		}
		token(t, s, e, api.TInt, n, "")
	}
	for n, want := range map[int64]string{0: "0.0", -2500: "-0.25", 30000: "3.0", 1: "0.0001", api.MaxFix: "107374.1824", -api.MaxFix: "-107374.1824"} {
		s, e := plain.Real(n)
		if s != want || s != fix.Text(n) {
			t.Errorf("Real(%d) = %q", n, s)
		}
		token(t, s, e, api.TReal, n, "")
	}
	for _, n := range []int64{api.MaxInt + 1, -api.MaxInt - 1, math.MaxInt64, math.MinInt64} {
		s, e := plain.Int(n)
		failed(t, "Int", s, e, api.ErrRange)
	}
	for _, n := range []int64{api.MaxFix + 1, -api.MaxFix - 1, math.MaxInt64, math.MinInt64} {
		s, e := plain.Real(n)
		failed(t, "Real", s, e, api.ErrRange)
	}
}

// Promises 4.2 and 4.6.
func TestStrings(t *testing.T) {
	all, coded := "", ""
	for i, s := range bytes() {
		want := s
		if i < 32 || i > 126 {
			want = "\\" + strconv.FormatInt(int64(512+i), 8)[1:]
		}
		if s == "(" || s == ")" || s == "\\" {
			want = "\\" + s
		}
		got, e := plain.String(s)
		if got != "("+want+")" {
			t.Errorf("String(%q) = %q, want %q in parentheses", s, got, want)
		}
		token(t, got, e, api.TString, 0, s)
		// A digit that follows must not be taken in.
		got, e = plain.String(s + "7")
		token(t, got, e, api.TString, 0, s+"7")
		all, coded = all+s, coded+want
	}
	if got, e := plain.String(all); got != "("+coded+")" || e != api.OK {
		t.Errorf("String of all bytes = %q, %d", got, e)
	}
	for _, s := range []string{"", "ab", all, "a(b\\\n", strings.Repeat("\xff", api.MaxString)} {
		got, e := plain.String(s)
		token(t, got, e, api.TString, 0, s)
		got, e = plain.Hex(s)
		if got != "<"+octet.Hex(s)+">" {
			t.Errorf("Hex(%q) = %q", s, got)
		}
		token(t, got, e, api.TString, 0, s)
	}
	long := strings.Repeat("s", api.MaxString+1)
	s, e := plain.String(long)
	failed(t, "String", s, e, api.ErrLong)
	s, e = plain.Hex(long)
	failed(t, "Hex", s, e, api.ErrLong)
}

// Promises 4.3 and 4.6.
func TestNames(t *testing.T) {
	for i, s := range bytes() {
		want := "/" + s
		if i < 33 || i > 126 || strings.Contains("#()<>[]{}/%", s) {
			want = "/#" + octet.Hex(s)
		}
		got, e := plain.Name(s)
		if i == 0 {
			failed(t, "Name of a zero byte", got, e, api.ErrForm)
			continue
		}
		if got != want {
			t.Errorf("Name(%q) = %q, want %q", s, got, want)
		}
		token(t, got, e, api.TName, 0, s)
		got, e = plain.Name("a" + s + "20")
		token(t, got, e, api.TName, 0, "a"+s+"20")
	}
	for s, want := range map[string]string{"": "/", "A B#": "/A#20B#23", "Root": "/Root", "7.5": "/7.5"} {
		got, e := plain.Name(s)
		if got != want {
			t.Errorf("Name(%q) = %q, want %q", s, got, want)
		}
		token(t, got, e, api.TName, 0, s)
	}
	long := strings.Repeat(" ", api.MaxName)
	got, e := plain.Name(long)
	token(t, got, e, api.TName, 0, long)
	for s, want := range map[string]api.Errno{long + " ": api.ErrLong, long + "\x00": api.ErrLong, long[1:] + "\x00": api.ErrForm, "\x00": api.ErrForm, "a\x00b": api.ErrForm} {
		got, e := plain.Name(s)
		failed(t, "Name of "+strconv.Quote(s), got, e, want)
	}
}

// Promise 4.4.
func TestJoin(t *testing.T) {
	for _, c := range []struct {
		want  string
		parts []string
	}{
		{"", nil},
		{"", []string{"", ""}},
		{"a", []string{"", "a", ""}},
		{"a b", []string{"a", "", "", "b"}},
		{"12 obj<</A 1>>", []string{"12", "obj", "<<", "/A", "1", ">>"}},
		{"(a)7", []string{"(a)", "", "7"}},
		{"7(a)", []string{"7", "(a)"}},
		{"/ 7", []string{"/", "7"}},
		{"/ 7", []string{"/", "", "7"}},
		{"//A", []string{"/", "/A"}},
		{"/(a)", []string{"/", "(a)"}},
		{"/A/B[1 2]<41>-1 R", []string{"/A", "/B", "[", "1", "2", "]", "<41>", "-1", "R"}},
		{"a  b", []string{"a ", " b"}},
		{"a\nb", []string{"a\n", "b"}},
		{"a b c d", []string{"a b", "c d"}},
	} {
		if got := plain.Join(c.parts...); got != c.want {
			t.Errorf("Join(%q) = %q, want %q", c.parts, got, c.want)
		}
	}
	for _, a := range bytes() {
		for _, b := range bytes() {
			want := a + b
			if (octet.Regular(a[0]) || a == "/") && octet.Regular(b[0]) {
				want = a + " " + b
			}
			if got := plain.Join(a, b); got != want {
				t.Errorf("Join(%q, %q) = %q, want %q", a, b, got, want)
			}
		}
	}
}

// Promise 4.6.
func TestJoinKeepsTokens(t *testing.T) {
	parts := []string{"12", "-.5", "obj", "/", "/A", "/#20", "(a)", "()", "<41>", "<>", "<<", ">>", "[", "]", "{", "}", "#", "\xff"}
	for _, a := range parts {
		for _, b := range parts {
			for _, c := range parts {
				checkJoin(t, a, b, c)
			}
		}
	}
}

func checkJoin(t *testing.T, parts ...string) {
	t.Helper()
	kept := slices.Clone(parts)
	joined := plain.Join(parts...)
	list, f := lex.All(joined)
	if f.Err != api.OK || len(list) != len(parts) || !slices.Equal(parts, kept) {
		t.Fatalf("Join(%q) = %q: %d tokens, %+v", kept, joined, len(list), f)
	}
	for i, one := range list {
		alone, _ := lex.Next(parts[i], 0)
		if joined[one.At:one.To] != parts[i] || one.Kind != alone.Kind || one.N != alone.N || one.S != alone.S {
			t.Fatalf("Join(%q) = %q: token %d is %+v", parts, joined, i, one)
		}
	}
}

// Promise 4.5.
func TestPad(t *testing.T) {
	for _, c := range []struct {
		n, width int
		want     string
	}{
		{42, 5, "00042"}, {0, 1, "0"}, {0, 3, "000"}, {9, 1, "9"}, {10, 1, ""}, {99999, 5, "99999"}, {100000, 5, ""},
		{1, 20, "00000000000000000001"}, {1, 21, ""}, {0, 0, ""}, {1, -1, ""}, {-1, 5, ""}, {-1, 0, ""},
		{math.MaxInt, 20, "09223372036854775807"}, {math.MaxInt, 19, "9223372036854775807"}, {math.MaxInt, 18, ""},
		{math.MinInt, 20, ""}, {1, math.MaxInt, ""}, {1, math.MinInt, ""},
	} {
		if got := plain.Pad(c.n, c.width); got != c.want {
			t.Errorf("Pad(%d, %d) = %q, want %q", c.n, c.width, got, c.want)
		}
	}
}
