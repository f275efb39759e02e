// Package octet classifies bytes and searches strings: see ../../shared/DOC.md and doc/01-octet.md.
package octet

import (
	"strings"

	"foliant/api"
)

const (
	whites = "\x00\t\n\f\r "
	delims = "()<>[]{}/%"
	digits = "0123456789ABCDEF"
)

// White reports whether c is a white-space byte.
func White(c byte) bool { return among(c, whites) }

// Delim reports whether c is a delimiter.
func Delim(c byte) bool { return among(c, delims) }

// Regular reports whether c is neither white space nor a delimiter.
func Regular(c byte) bool { return !White(c) && !Delim(c) }

// among reports whether c is one of the bytes of class.
func among(c byte, class string) bool {
	for i := range len(class) {
		if class[i] == c {
			return true
		}
	}
	return false
}

// Digit returns the value of c as a hexadecimal digit of either case, or -1.
func Digit(c byte) int {
	if c >= 'a' && c <= 'f' {
		c -= 'a' - 'A'
	}
	for i := range len(digits) {
		if digits[i] == c {
			return i
		}
	}
	return -1
}

// Hex returns two upper-case hexadecimal digits per byte of s.
func Hex(s string) string {
	out := make([]byte, 0, 2*len(s))
	for i := range len(s) {
		out = append(out, digits[s[i]>>4], digits[s[i]&15])
	}
	return string(out)
}

// Unhex decodes hexadecimal digits of either case.
func Unhex(s string) (string, api.Errno) {
	if len(s)%2 != 0 {
		return "", api.ErrForm
	}
	out := make([]byte, 0, len(s)/2)
	for i := range len(s) / 2 {
		high, low := Digit(s[2*i]), Digit(s[2*i+1])
		if high < 0 || low < 0 {
			return "", api.ErrForm
		}
		out = append(out, byte(16*high+low))
	}
	return string(out), api.OK
}

// Find returns the smallest offset from from on at which part occurs in s, or -1.
func Find(s, part string, from int) int {
	from = max(from, 0)
	if part == "" || from > len(s) {
		return -1
	}
	at := strings.Index(s[from:], part)
	if at < 0 {
		return -1
	}
	return from + at
}

// Last returns the greatest offset at which part occurs in s, or -1.
func Last(s, part string) int {
	if part == "" {
		return -1
	}
	return strings.LastIndex(s, part)
}

// Begins reports whether at lies in s, its end included, and part occurs there.
func Begins(s, part string, at int) bool {
	return at >= 0 && at <= len(s) && strings.HasPrefix(s[at:], part)
}

// Skip returns the offset of the first byte from at on that is neither white space nor in a comment.
func Skip(s string, at int) int {
	if at < 0 || at > len(s) {
		return at
	}
	for at < len(s) {
		switch {
		case White(s[at]):
			at++
		case s[at] == '%':
			at = Line(s, at)
		default:
			return at
		}
	}
	return at
}

// Line returns the offset just after the first end of line that starts at or after at.
func Line(s string, at int) int {
	if at < 0 || at > len(s) {
		return at
	}
	for i := range len(s) - at {
		if Begins(s, "\r\n", at+i) {
			return at + i + 2
		}
		if among(s[at+i], "\r\n") {
			return at + i + 1
		}
	}
	return len(s)
}
