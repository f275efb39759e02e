package lex

import (
	"strings"

	"foliant/api"
	"foliant/fix"
	"foliant/octet"
)

// mark reads the mark from at up to to.
func mark(s string, at, to int) (api.Token, api.Errno) {
	return api.Token{Kind: api.TMark, At: at, To: to, S: s[at:to]}, api.OK
}

// name reads the name whose slash is at at.
func name(s string, at int) (api.Token, api.Errno) {
	to := run(s, at+1)
	text, e := decoded(s[at+1 : to])
	if e != api.OK {
		return api.Token{}, e
	}
	return api.Token{Kind: api.TName, At: at, To: to, S: text}, api.OK
}

// decoded replaces every # and its two digits by the byte they denote.
func decoded(s string) (string, api.Errno) {
	var text []byte
	for at := 0; at < len(s); at++ {
		c := s[at]
		if c == '#' {
			if at+3 > len(s) {
				return "", api.ErrForm
			}
			b, e := octet.Unhex(s[at+1 : at+3])
			if e != api.OK || b == "\x00" {
				return "", api.ErrForm
			}
			c = b[0]
			at += 2
		}
		text = append(text, c)
	}
	if len(text) > api.MaxName {
		return "", api.ErrLong
	}
	return string(text), api.OK
}

// literal reads the string whose opening parenthesis is at at.
func literal(s string, at int) (api.Token, api.Errno) {
	var text []byte
	depth := 1
	for to := at + 1; to < len(s); {
		c := s[to]
		switch c {
		case '\\':
			text, to = escape(text, s, to+1)
			continue
		case '\r', '\n':
			text, to = append(text, '\n'), octet.Line(s, to)
			continue
		case '(':
			depth++
		case ')':
			depth--
		}
		to++
		if depth == 0 {
			return stringToken(at, to, string(text))
		}
		text = append(text, c)
	}
	return api.Token{}, api.ErrEnd
}

// escape adds to text what a backslash before offset at denotes, and returns the offset after it. At the end of s it adds nothing: the string that holds it is then cut short.
func escape(text []byte, s string, at int) ([]byte, int) {
	if at == len(s) {
		return text, at
	}
	switch c := s[at]; c {
	case 'n':
		return append(text, '\n'), at + 1
	case 'r':
		return append(text, '\r'), at + 1
	case 't':
		return append(text, '\t'), at + 1
	case 'b':
		return append(text, '\b'), at + 1
	case 'f':
		return append(text, '\f'), at + 1
	case '\r', '\n':
		return text, octet.Line(s, at)
	case '0', '1', '2', '3', '4', '5', '6', '7':
		n, to := octal(s, at)
		return append(text, n), to
	default:
		return append(text, c), at + 1
	}
}

// octal reads up to three octal digits at at, modulo 256, and returns the offset after them.
func octal(s string, at int) (byte, int) {
	n := 0
	for range 3 {
		if at == len(s) || s[at] < '0' || s[at] > '7' {
			break
		}
		n = 8*n + int(s[at]-'0')
		at++
	}
	return byte(n % 256), at
}

// digits reads the hexadecimal string whose < is at at.
func digits(s string, at int) (api.Token, api.Errno) {
	var hex []byte
	for to := at + 1; to < len(s); to++ {
		c := s[to]
		if c == '>' {
			return hexToken(at, to+1, hex)
		}
		if octet.Digit(c) >= 0 {
			hex = append(hex, c)
		} else if !octet.White(c) {
			return api.Token{}, api.ErrForm
		}
	}
	return api.Token{}, api.ErrEnd
}

// hexToken returns the string token with the given hexadecimal digits.
func hexToken(at, to int, hex []byte) (api.Token, api.Errno) {
	if len(hex)%2 != 0 {
		hex = append(hex, '0')
	}
	text, e := octet.Unhex(string(hex))
	if e != api.OK {
		return api.Token{}, e
	}
	return stringToken(at, to, text)
}

// stringToken returns the string token with the given text.
func stringToken(at, to int, text string) (api.Token, api.Errno) {
	if len(text) > api.MaxString {
		return api.Token{}, api.ErrLong
	}
	return api.Token{Kind: api.TString, At: at, To: to, S: text}, api.OK
}

// regular reads the run of regular bytes at at: a number or a word.
func regular(s string, at int) (api.Token, api.Errno) {
	to := run(s, at)
	text := s[at:to]
	if whole(text) {
		n, e := integer(text)
		if e != api.OK {
			return api.Token{}, e
		}
		return api.Token{Kind: api.TInt, At: at, To: to, N: n}, api.OK
	}
	if strings.Contains(text, ".") {
		switch n, e := fix.Read(text); e {
		case api.OK:
			return api.Token{Kind: api.TReal, At: at, To: to, N: n}, api.OK
		case api.ErrRange:
			return api.Token{}, e
		}
	}
	if len(text) > api.MaxName {
		return api.Token{}, api.ErrLong
	}
	return api.Token{Kind: api.TWord, At: at, To: to, S: text}, api.OK
}

// run returns the offset after the regular bytes at at.
func run(s string, at int) int {
	for i := range len(s) - at {
		if !octet.Regular(s[at+i]) {
			return at + i
		}
	}
	return len(s)
}

// whole reports whether s has decimal digits only, after a sign or none.
func whole(s string) bool {
	s = unsigned(s)
	for i := range len(s) {
		if s[i] < '0' || s[i] > '9' {
			return false
		}
	}
	return s != ""
}

// integer returns the number that s denotes. It stops at the first digit that leaves the range, since more of them could wrap around.
func integer(s string) (int64, api.Errno) {
	n := int64(0)
	for _, c := range []byte(unsigned(s)) {
		n = 10*n + int64(c-'0')
		if n > api.MaxInt {
			return 0, api.ErrRange
		}
	}
	if s[0] == '-' {
		n = -n
	}
	return n, api.OK
}

// unsigned returns s without its sign.
func unsigned(s string) string {
	if s != "" && (s[0] == '+' || s[0] == '-') {
		return s[1:]
	}
	return s
}
