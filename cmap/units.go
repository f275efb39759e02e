package cmap

import (
	"unicode/utf8"

	"foliant/api"
)

// Code units from highFirst to lowFirst, not included, are the first half of a pair, which stands for a character from pairFirst on, and those from lowFirst to lowLast the second one.
const (
	highFirst = 0xD800
	lowFirst  = 0xDC00
	lowLast   = 0xDFFF

	pairFirst = 0x10000
	halfBits  = 10 // of a character's bits that each half has

	unitSize = 2 // bytes
)

// high reports whether a code unit is the first half of a pair.
func high(unit int) bool { return unit >= highFirst && unit < lowFirst }

// low reports whether a code unit is the second half of a pair.
func low(unit int) bool { return unit >= lowFirst && unit <= lowLast }

// unitAt returns the code unit at an offset of s.
func unitAt(s string, at int) int { return int(s[at])<<8 | int(s[at+1]) }

// appendUnit appends a code unit.
func appendUnit(s []byte, unit int) []byte { return append(s, byte(unit>>8), byte(unit)) }

// Utf returns a UTF-16 string in UTF-8.
func Utf(s string) (string, api.Errno) {
	if len(s)%unitSize != 0 {
		return "", api.ErrForm
	}
	out := make([]byte, 0, len(s))
	for at := 0; at < len(s); at += unitSize {
		c := unitAt(s, at)
		if low(c) {
			return "", api.ErrForm
		}
		if high(c) {
			at += unitSize
			if at == len(s) || !low(unitAt(s, at)) {
				return "", api.ErrForm
			}
			c = pairFirst + (c-highFirst)<<halfBits + unitAt(s, at) - lowFirst
		}
		out = utf8.AppendRune(out, rune(c))
	}
	return string(out), api.OK
}

// Units returns a UTF-8 string in UTF-16.
func Units(s string) string {
	out := make([]byte, 0, unitSize*len(s))
	for _, r := range s {
		c := int(r)
		if c >= pairFirst {
			c -= pairFirst
			out = appendUnit(out, highFirst+c>>halfBits)
			c = lowFirst + c&(1<<halfBits-1)
		}
		out = appendUnit(out, c)
	}
	return string(out)
}

// unitsIn returns how many code units a UTF-8 string has in UTF-16.
func unitsIn(s string) int {
	n := 0
	for _, r := range s {
		n++
		if r >= pairFirst {
			n++
		}
	}
	return n
}
