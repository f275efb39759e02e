package ascii

import (
	"math"

	"foliant/api"
	"foliant/give"
)

const (
	base     = 85
	lowest   = '!' // the digit 0
	highest  = lowest + base - 1
	zeros    = 'z' // stands for four zero bytes
	fiveEnd  = "~>"
	fiveMark = '~'
)

type (
	bytes4  = [4]byte
	digits5 = [5]byte // the values of digits
)

// Five encodes s in digits of base 85.
func Five(s string) string {
	var out []byte
	for s != "" {
		var group bytes4
		n := copy(group[:], s)
		s = s[n:]
		if n == len(group) && group == (bytes4{}) {
			out = append(out, zeros)
			continue
		}
		for _, v := range digitsOf(group)[:n+1] {
			out = append(out, lowest+v)
		}
	}
	return string(out) + fiveEnd
}

// digitsOf returns the digits of four bytes.
func digitsOf(group bytes4) []byte {
	n := uint64(0)
	for _, c := range group {
		n = n<<8 + uint64(c)
	}
	var digits digits5
	for i := range digits {
		digits[len(digits)-1-i] = byte(n % base)
		n /= base
	}
	return digits[:]
}

// bytesOf returns the bytes of five digits.
func bytesOf(digits digits5) bytes4 {
	n := uint64(0)
	for _, v := range digits {
		n = n*base + uint64(v)
	}
	if n > math.MaxUint32 {
		give.Up(api.ErrForm)
	}
	return bytes4{byte(n >> 24), byte(n >> 16), byte(n >> 8), byte(n)}
}

// unfive decodes a group of digits at a time.
func unfive(d *decoder) {
	var digits digits5
	n := 0
	for {
		c := d.visible()
		switch {
		case c == zeros && n == 0:
			d.put(make([]byte, len(bytes4{}))...)
		case c >= lowest && c <= highest:
			digits[n] = c - lowest
			if n++; n == len(digits) {
				group := bytesOf(digits)
				d.put(group[:]...)
				n = 0
			}
		case c == fiveMark:
			if d.take(1) != fiveEnd[1:] {
				give.Up(api.ErrForm)
			}
			d.last(digits, n)
			return
		default:
			give.Up(api.ErrForm)
		}
	}
}

// last collects the bytes of a group of which n digits are there.
func (d *decoder) last(digits digits5, n int) {
	if n == 0 {
		return
	}
	if n == 1 {
		give.Up(api.ErrForm)
	}
	for i := range digits[n:] {
		digits[n+i] = base - 1
	}
	group := bytesOf(digits)
	d.put(group[:n-1]...)
}
