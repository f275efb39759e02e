package ascii

import "strings"

const (
	most     = 128 // bytes that one length byte stands for
	fewest   = 3   // equal bytes that are worth a run
	runEnd   = 128
	runScale = 257 // a run of n bytes has the length byte runScale - n
)

// Run encodes s in runs of equal bytes and pieces of literal ones.
func Run(s string) string {
	var out []byte
	for s != "" {
		n := equal(s)
		if n >= fewest {
			out = append(out, byte(runScale-n), s[0])
		} else {
			n = literal(s)
			out = append(append(out, byte(n-1)), s[:n]...)
		}
		s = s[n:]
	}
	return string(append(out, runEnd))
}

// equal returns how many equal bytes s begins with, as far as one length byte goes.
func equal(s string) int {
	n := 1
	for n < min(len(s), most) && s[n] == s[0] {
		n++
	}
	return n
}

// literal returns how many bytes of s stand before the first run, as far as one length byte goes.
func literal(s string) int {
	n := 1
	for n < min(len(s), most) && equal(s[n:]) < fewest {
		n++
	}
	return n
}

// unrun decodes the bytes of one length byte at a time.
func unrun(d *decoder) {
	for {
		n := int(d.take(1)[0])
		switch {
		case n == runEnd:
			return
		case n < runEnd:
			d.put([]byte(d.take(n + 1))...)
		default:
			d.put([]byte(strings.Repeat(d.take(1), runScale-n))...)
		}
	}
}
