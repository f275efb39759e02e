package ascii

import (
	"foliant/api"
	"foliant/give"
	"foliant/octet"
)

// decoder reads the bytes of one string and collects what they stand for. It gives up with the first error.
type decoder struct {
	rest string
	out  []byte
	most int
}

// decoded returns what decode makes of s, if that is most bytes at most.
func decoded(s string, most int, decode func(d *decoder)) (string, api.Errno) {
	if most < 0 {
		return "", api.ErrArg
	}
	d := &decoder{rest: s, most: min(most, api.MaxData)}
	return give.Caught(func() string {
		decode(d)
		return string(d.out)
	})
}

// take reads n bytes.
func (d *decoder) take(n int) string {
	if n > len(d.rest) {
		give.Up(api.ErrEnd)
	}
	part := d.rest[:n]
	d.rest = d.rest[n:]
	return part
}

// visible reads the next byte that is not white space.
func (d *decoder) visible() byte {
	for {
		if c := d.take(1)[0]; !octet.White(c) {
			return c
		}
	}
}

// put collects decoded bytes.
func (d *decoder) put(more ...byte) {
	if len(more) > d.most-len(d.out) {
		give.Up(api.ErrLong)
	}
	d.out = append(d.out, more...)
}
