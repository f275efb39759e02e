package lex_test

import (
	"math"
	"slices"
	"strconv"
	"strings"
	"testing"

	"foliant/api"
	"foliant/lex"
	"foliant/octet"
)

// A sample is a text whose first token ends at to, with what it is.
type sample struct {
	s    string
	to   int
	kind int
	n    int64
	text string
}

// right checks samples at the start of a text, and again after white space and a comment, with another token behind them.
func right(t *testing.T, list []sample) {
	t.Helper()
	for _, c := range list {
		want := api.Token{Kind: c.kind, To: c.to, N: c.n, S: c.text}
		if got, e := lex.Next(c.s, 0); got != want || e != api.OK {
			t.Errorf("Next(%q) = %+v, %d, want %+v", c.s, got, e, want)
		}
		want.At, want.To = 7, 7+c.to
		if got, e := lex.Next("( % (\n "+c.s+" 1", 1); got != want || e != api.OK {
			t.Errorf("Next(%q) from 1 = %+v, %d, want %+v", "( % (\n "+c.s+" 1", got, e, want)
		}
	}
}

// wrong checks that the token at the start of each text has the error e.
func wrong(t *testing.T, e api.Errno, list ...string) {
	t.Helper()
	for _, s := range list {
		if got, err := lex.Next(s, 0); got != (api.Token{}) || err != e {
			t.Errorf("Next(%q) = %+v, %d, want error %d", s, got, err, e)
		}
		if got, err := lex.Next("7 "+s, 1); got != (api.Token{}) || err != e {
			t.Errorf("Next(%q, 1) = %+v, %d, want error %d", "7 "+s, got, err, e)
		}
	}
}

// Promise 3.1.
func TestMarks(t *testing.T) {
	right(t, []sample{
		{"[", 1, api.TMark, 0, "["},
		{"]]", 1, api.TMark, 0, "]"},
		{"{a", 1, api.TMark, 0, "{"},
		{"}", 1, api.TMark, 0, "}"},
		{"<<", 2, api.TMark, 0, "<<"},
		{"<<<", 2, api.TMark, 0, "<<"},
		{">>", 2, api.TMark, 0, ">>"},
		{">>>", 2, api.TMark, 0, ">>"},
	})
	wrong(t, api.ErrForm, ">", "> >", ">a", ")", "))")
}

// Promise 3.1.
func TestNumbers(t *testing.T) {
	zeros := strings.Repeat("0", 200)
	right(t, []sample{
		{"7", 1, api.TInt, 7, ""},
		{"+7", 2, api.TInt, 7, ""},
		{"-7(", 2, api.TInt, -7, ""},
		{"-0", 2, api.TInt, 0, ""},
		{"007", 3, api.TInt, 7, ""},
		{"2147483647", 10, api.TInt, api.MaxInt, ""},
		{"-2147483647", 11, api.TInt, -api.MaxInt, ""},
		{zeros + "12", 202, api.TInt, 12, ""},
		{"7.", 2, api.TReal, 70000, ""},
		{"-.5/", 3, api.TReal, -5000, ""},
		{"+1.25", 5, api.TReal, 12500, ""},
		{"107374.1824", 11, api.TReal, api.MaxFix, ""},
		{"0.00005", 7, api.TReal, 1, ""},
		{"-0.0", 4, api.TReal, 0, ""},
	})
	wrong(t, api.ErrRange, "2147483648", "-2147483648", strings.Repeat("9", 500), "18446744073709551617", "107375.", "-107374.1825", "999999999999999999999999.5")
}

// Promise 3.1.
func TestWords(t *testing.T) {
	right(t, []sample{
		{"7x", 2, api.TWord, 0, "7x"},
		{"obj<<", 3, api.TWord, 0, "obj"},
		{"R%", 1, api.TWord, 0, "R"},
		{"T*", 2, api.TWord, 0, "T*"},
		{"'", 1, api.TWord, 0, "'"},
		{"\"", 1, api.TWord, 0, "\""},
		{"+", 1, api.TWord, 0, "+"},
		{"-", 1, api.TWord, 0, "-"},
		{".", 1, api.TWord, 0, "."},
		{"-.", 2, api.TWord, 0, "-."},
		{"1.2.3", 5, api.TWord, 0, "1.2.3"},
		{"1e3", 3, api.TWord, 0, "1e3"},
		{"--1", 3, api.TWord, 0, "--1"},
		{"1-", 2, api.TWord, 0, "1-"},
		{"a#20\\", 5, api.TWord, 0, "a#20\\"},
		{"\x80\xff\x7f", 3, api.TWord, 0, "\x80\xff\x7f"},
		{"1." + strings.Repeat("0", 39), 41, api.TWord, 0, "1." + strings.Repeat("0", 39)},
		{strings.Repeat("w", api.MaxName), api.MaxName, api.TWord, 0, strings.Repeat("w", api.MaxName)},
	})
	wrong(t, api.ErrLong, strings.Repeat("w", api.MaxName+1), "1."+strings.Repeat("9", api.MaxName-1), strings.Repeat("1", api.MaxName)+"x")
}

// Promise 3.1.
func TestNames(t *testing.T) {
	long := strings.Repeat("n", api.MaxName)
	coded := strings.Repeat("#6e", api.MaxName)
	right(t, []sample{
		{"/", 1, api.TName, 0, ""},
		{"/ A", 1, api.TName, 0, ""},
		{"/A#20b(x", 6, api.TName, 0, "A b"},
		{"/A/B", 2, api.TName, 0, "A"},
		{"/7.5", 4, api.TName, 0, "7.5"},
		{"/#2f#2F#23", 10, api.TName, 0, "//#"},
		{"/#ff#0A", 7, api.TName, 0, "\xff\n"},
		{"/#2323", 6, api.TName, 0, "#23"},
		{"/a\\b", 4, api.TName, 0, "a\\b"},
		{"/" + long, 1 + len(long), api.TName, 0, long},
		{"/" + coded, 1 + len(coded), api.TName, 0, long},
	})
	wrong(t, api.ErrForm, "/#", "/A#4", "/A#4 1", "/A#4(1)", "/A#G1", "/A#1G", "/#00", "/a#00b", "/##20", "/"+long+"n#", "/"+long+"n#00")
	wrong(t, api.ErrLong, "/"+long+"n", "/"+coded+"n", "/"+long+"#41")
}

// Promise 3.1.
func TestLiteralStrings(t *testing.T) {
	long := strings.Repeat("s", api.MaxString)
	coded := strings.Repeat("\\163", api.MaxString)
	right(t, []sample{
		{"()", 2, api.TString, 0, ""},
		{"(a b)", 5, api.TString, 0, "a b"},
		{"(a(b)c)d)", 7, api.TString, 0, "a(b)c"},
		{"((()))", 6, api.TString, 0, "(())"},
		{"(x\\051)", 7, api.TString, 0, "x)"},
		{"(\\(\\)\\\\)", 8, api.TString, 0, "()\\"},
		{"(\\()", 4, api.TString, 0, "("},
		{"(\\n\\r\\t\\b\\f)", 12, api.TString, 0, "\n\r\t\b\f"},
		{"(\\x\\8\\9\\N\\%)", 12, api.TString, 0, "x89N%"},
		{"(\\1\\12\\123\\1234)", 16, api.TString, 0, "\x01\n\x53\x534"},
		{"(\\18\\0\\400\\777)", 15, api.TString, 0, "\x018\x00\x00\xff"},
		{"(a\nb\rc\r\nd\n\re)", 13, api.TString, 0, "a\nb\nc\nd\n\ne"},
		{"(a\\\nb\\\rc\\\r\nd\\\n\re)", 17, api.TString, 0, "abcd\ne"},
		{"(%a)\n", 4, api.TString, 0, "%a"},
		{"(<>[]{}/#20)", 12, api.TString, 0, "<>[]{}/#20"},
		{"(\x00\t\x80\xff)", 6, api.TString, 0, "\x00\t\x80\xff"},
		{"(" + long + ")", 2 + len(long), api.TString, 0, long},
		{"(" + coded + ")", 2 + len(coded), api.TString, 0, long},
	})
	wrong(t, api.ErrEnd, "(", "(a", "((a)", "(a\\", "(\\", "(a\\)", "(a\\\r", "(a\\1", "(a\r", "("+long+"s", "("+long+"s\\")
	wrong(t, api.ErrLong, "("+long+"s)", "("+coded+"s)", "("+long+"\n)")
}

// Promise 3.1.
func TestHexStrings(t *testing.T) {
	long := strings.Repeat("s", api.MaxString)
	right(t, []sample{
		{"<>", 2, api.TString, 0, ""},
		{"<4>", 3, api.TString, 0, "@"},
		{"<414>", 5, api.TString, 0, "A@"},
		{"<4a4B>>", 6, api.TString, 0, "JK"},
		{"< 4\r\n1\x00\t4\f2 >", 13, api.TString, 0, "AB"},
		{"< >", 3, api.TString, 0, ""},
		{"<" + octet.Hex(long) + ">", 2 + 2*len(long), api.TString, 0, long},
		{"<" + octet.Hex(long[1:]) + "7>", 1 + 2*len(long), api.TString, 0, long[1:] + "p"},
	})
	wrong(t, api.ErrForm, "<4g>", "<4g", "<(", "<%>\n", "<4 <>", "<-1>", "<4/>", "<x")
	wrong(t, api.ErrEnd, "<", "<4", "<4 ", "<41 \n")
	wrong(t, api.ErrLong, "<"+octet.Hex(long)+"7>", "<"+octet.Hex(long+"s")+">")
	if got, e := lex.Next("<"+octet.Hex(long)+"7378", 0); got != (api.Token{}) || e != api.ErrEnd {
		t.Errorf("a long string without an end: %d", e)
	}
}

// Promise 3.1: every byte behind a backslash, every octal number, every byte as two digits, every byte behind a digit.
func TestEveryByte(t *testing.T) {
	simple := map[byte]string{'n': "\n", 'r': "\r", 't': "\t", 'b': "\b", 'f': "\f", '\r': "", '\n': ""}
	for i := range 256 {
		c := byte(i)
		one := string([]byte{c})
		text, found := simple[c]
		if !found {
			text = one
		}
		if c >= '0' && c <= '7' {
			text = string([]byte{c - '0'})
		}
		right(t, []sample{{"(\\" + one + ")", 4, api.TString, 0, text}})
		right(t, []sample{{"<" + octet.Hex(one) + ">", 4, api.TString, 0, one}})
		if octet.Regular(c) && c != '.' && (c < '0' || c > '9') {
			right(t, []sample{{"7" + one, 2, api.TWord, 0, "7" + one}})
		}
	}
	for n := range 512 {
		code := strconv.FormatInt(int64(512+n), 8)[1:]
		text := string([]byte{byte(n)})
		right(t, []sample{{"(\\" + code + ")", 6, api.TString, 0, text}, {"(\\" + code + "0)", 7, api.TString, 0, text + "0"}})
		short := strconv.FormatInt(int64(n), 8)
		right(t, []sample{{"(\\" + short + "8)", 4 + len(short), api.TString, 0, text + "8"}})
	}
}

// Promise 3.1.
func TestNextPlaces(t *testing.T) {
	for _, c := range []struct {
		s  string
		at int
	}{{"", 0}, {"a", 1}, {" \n", 0}, {"a %", 1}, {"%\r", 0}, {"\x00\t\f", 2}} {
		want := api.Token{Kind: api.TEnd, At: len(c.s), To: len(c.s)}
		if got, e := lex.Next(c.s, c.at); got != want || e != api.OK {
			t.Errorf("Next(%q, %d) = %+v, %d", c.s, c.at, got, e)
		}
	}
	for _, at := range []int{math.MinInt, -1, 3, math.MaxInt} {
		if got, e := lex.Next("ab", at); got != (api.Token{}) || e != api.ErrArg {
			t.Errorf("Next at %d = %+v, %d", at, got, e)
		}
	}
}

// Promise 3.2.
func TestUpto(t *testing.T) {
	const s = " a%\n[/B ) c"
	list := []api.Token{{Kind: api.TWord, At: 1, To: 2, S: "a"}, {Kind: api.TMark, At: 4, To: 5, S: "["}, {Kind: api.TName, At: 5, To: 7, S: "B"}}
	for _, c := range []struct {
		at, most int
		want     []api.Token
		f        api.Fault
	}{
		{0, 0, nil, api.Fault{}},
		{0, -1, nil, api.Fault{}},
		{0, math.MinInt, nil, api.Fault{}},
		{0, 1, list[:1], api.Fault{}},
		{0, 3, list, api.Fault{}},
		{2, 2, list[1:], api.Fault{}},
		{0, 4, nil, api.Fault{At: 8, Err: api.ErrForm}},
		{7, 1, nil, api.Fault{At: 8, Err: api.ErrForm}},
		{9, 5, []api.Token{{Kind: api.TWord, At: 10, To: 11, S: "c"}}, api.Fault{}},
		{11, math.MaxInt, nil, api.Fault{}},
		{12, 1, nil, api.Fault{Err: api.ErrArg}},
		{12, 0, nil, api.Fault{Err: api.ErrArg}},
		{-1, 0, nil, api.Fault{Err: api.ErrArg}},
		{math.MaxInt, math.MaxInt, nil, api.Fault{Err: api.ErrArg}},
	} {
		got, f := lex.Upto(s, c.at, c.most)
		if !slices.Equal(got, c.want) || f != c.f {
			t.Errorf("Upto(%d, %d) = %+v, %+v, want %+v, %+v", c.at, c.most, got, f, c.want, c.f)
		}
	}
	for s, f := range map[string]api.Fault{
		"a (b":                   {At: 2, Err: api.ErrEnd},
		"a %\n /#":               {At: 5, Err: api.ErrForm},
		"1 2147483648 )":         {At: 2, Err: api.ErrRange},
		"1<4\n" + "z>":           {At: 1, Err: api.ErrForm},
		strings.Repeat("w", 128): {At: 0, Err: api.ErrLong},
	} {
		if got, g := lex.All(s); len(got) != 0 || g != f {
			t.Errorf("All(%q) = %+v, %+v, want %+v", s, got, g, f)
		}
	}
}

// Promise 3.2.
func TestAll(t *testing.T) {
	for _, s := range []string{"", " ", "%", "% a\n"} {
		if got, f := lex.All(s); len(got) != 0 || f != (api.Fault{}) {
			t.Errorf("All(%q) = %+v, %+v", s, got, f)
		}
	}
	most := strings.Repeat("[", api.MaxFile)
	for _, tail := range []string{"", " ", "%]"} {
		if got, f := lex.All(most + tail); len(got) != api.MaxFile || f != (api.Fault{}) {
			t.Errorf("All of MaxFile tokens and %q: %d, %+v", tail, len(got), f)
		}
	}
	for tail, f := range map[string]api.Fault{
		"]":     {At: api.MaxFile, Err: api.ErrMany},
		" ] )":  {At: api.MaxFile + 1, Err: api.ErrMany},
		"%\n(a": {At: api.MaxFile + 2, Err: api.ErrEnd},
	} {
		if got, g := lex.All(most + tail); len(got) != 0 || g != f {
			t.Errorf("All of MaxFile tokens and %q: %d, %+v, want %+v", tail, len(got), g, f)
		}
	}
}

// Promise 3.3, for every text over bytes that matter to the tokenizer.
func TestTokensOfAll(t *testing.T) {
	const bytes = "a1.-#/()<>[%\\ \n"
	for n := range 15 * 15 * 15 * 15 {
		s := []byte{bytes[n%15], bytes[n/15%15], bytes[n/225%15], bytes[n/3375]}
		checkTokens(t, string(s))
	}
	checkTokens(t, "1 0 obj\n<</A#20b(x\\051)/C<4>>>stream%x\n[-.5 +3]{true}")
}

func checkTokens(t *testing.T, s string) {
	t.Helper()
	list, f := lex.All(s)
	if f.Err != api.OK {
		_, e := lex.Next(s, f.At)
		if len(list) != 0 || e != f.Err || octet.Skip(s, f.At) != f.At {
			t.Fatalf("All(%q) tells of %+v, Next of %d", s, f, e)
		}
		list, _ = lex.All(s[:f.At])
		s = s[:f.At]
	}
	end := 0
	for _, one := range list {
		if one.At < end || one.To <= one.At || octet.Skip(s[:one.At], end) != one.At {
			t.Fatalf("All(%q): %+v does not follow from %d", s, one, end)
		}
		alone, e := lex.Next(s[one.At:one.To], 0)
		moved := one
		moved.At, moved.To = 0, one.To-one.At
		if alone != moved || e != api.OK {
			t.Fatalf("All(%q): %+v alone is %+v, %d", s, one, alone, e)
		}
		end = one.To
	}
	if octet.Skip(s, end) != len(s) {
		t.Fatalf("All(%q) leaves out what follows %d", s, end)
	}
}

// Termination: long texts of one kind are read in one pass.
func TestLongTexts(t *testing.T) {
	for s, e := range map[string]api.Errno{
		"(":   api.ErrEnd,
		"\\(": api.OK,
		"<4":  api.ErrForm,
		"/#2": api.ErrForm,
		"%":   api.OK,
		"/":   api.OK,
		"%\r": api.OK,
		"9":   api.ErrRange,
		".":   api.ErrLong,
	} {
		if _, got := lex.Next(strings.Repeat(s, api.MaxFile/len(s)), 0); got != e {
			t.Errorf("a long text of %q: %d, want %d", s, got, e)
		}
	}
}
