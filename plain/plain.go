// Package plain formats single tokens canonically: see ../../shared/DOC.md and doc/04-plain.md.
package plain

import (
	"strconv"
	"strings"

	"foliant/api"
	"foliant/fix"
	"foliant/octet"
)

// maxWidth is the greatest width that Pad fills.
const maxWidth = 20

// Int formats an integer.
func Int(n int64) (string, api.Errno) {
	if n < -api.MaxInt || n > api.MaxInt {
		return "", api.ErrRange
	}
	return strconv.FormatInt(n, 10), api.OK
}

// Real formats a number of units.
func Real(n int64) (string, api.Errno) {
	if n < -api.MaxFix || n > api.MaxFix {
		return "", api.ErrRange
	}
	return fix.Text(n), api.OK
}

// String formats s as a literal string.
func String(s string) (string, api.Errno) {
	if len(s) > api.MaxString {
		return "", api.ErrLong
	}
	text := each(s, func(out []byte, c byte) []byte {
		switch {
		case c == '(' || c == ')' || c == '\\':
			return append(out, '\\', c)
		case c < 32 || c > 126:
			return append(out, '\\', '0'+c>>6, '0'+c>>3&7, '0'+c&7)
		}
		return append(out, c)
	})
	return "(" + text + ")", api.OK
}

// Hex formats s as a hexadecimal string.
func Hex(s string) (string, api.Errno) {
	if len(s) > api.MaxString {
		return "", api.ErrLong
	}
	return "<" + octet.Hex(s) + ">", api.OK
}

// Name formats s as a name.
func Name(s string) (string, api.Errno) {
	if len(s) > api.MaxName {
		return "", api.ErrLong
	}
	if strings.Contains(s, "\x00") {
		return "", api.ErrForm
	}
	text := each(s, func(out []byte, c byte) []byte {
		if c < 33 || c > 126 || c == '#' || octet.Delim(c) {
			out = append(out, '#')
			return append(out, octet.Hex(string([]byte{c}))...)
		}
		return append(out, c)
	})
	return "/" + text, api.OK
}

// each formats s byte by byte: put adds what stands for a byte to what there is.
func each(s string, put func(out []byte, c byte) []byte) string {
	var out []byte
	for i := range len(s) {
		out = put(out, s[i])
	}
	return string(out)
}

// Join concatenates the parts, with a space where two of them would run together.
func Join(parts ...string) string {
	var out []byte
	for _, part := range parts {
		if part == "" {
			continue
		}
		if len(out) > 0 && runOn(out[len(out)-1], part[0]) {
			out = append(out, ' ')
		}
		out = append(out, part...)
	}
	return string(out)
}

// runOn reports whether a token that ends with last takes in a byte first that follows it.
func runOn(last, first byte) bool {
	return (octet.Regular(last) || last == '/') && octet.Regular(first)
}

// Pad formats n with leading zeros to width digits.
func Pad(n, width int) string {
	if n < 0 || width < 1 || width > maxWidth {
		return ""
	}
	digits := strconv.Itoa(n)
	if len(digits) > width {
		return ""
	}
	return strings.Repeat("0", width-len(digits)) + digits
}
