package bit

import "foliant/api"

// Reader consumes a string, bit by bit.
type Reader struct {
	text  string
	at    int // in bits
	order order
}

// From returns a reader at the start of a string.
func From(s string) *Reader { return &Reader{text: s} }

// Low reads a number of n bits, the least significant one first.
func (r *Reader) Low(n int) (int, api.Errno) {
	if e := r.begin(n, low); e != api.OK {
		return 0, e
	}
	v := 0
	for i := range n {
		v |= r.next() << i
	}
	return v, api.OK
}

// High reads a number of n bits, the most significant one first.
func (r *Reader) High(n int) (int, api.Errno) {
	if e := r.begin(n, high); e != api.OK {
		return 0, e
	}
	v := 0
	for range n {
		v = v<<1 | r.next()
	}
	return v, api.OK
}

// begin sets the order in which n bits are read next, if they can be.
func (r *Reader) begin(n int, o order) api.Errno {
	switch {
	case r == nil || !fits(n, r.order, o):
		return api.ErrArg
	case n > r.Left():
		return api.ErrEnd
	case n > 0:
		r.order = o
	}
	return api.OK
}

// next reads one bit, which is there.
func (r *Reader) next() int {
	b := r.text[r.at/byteBits] >> place(r.at, r.order) & 1
	r.at++
	return int(b)
}

// Align skips the rest of a partial byte.
func (r *Reader) Align() {
	if r != nil {
		r.at = whole(r.at) * byteBits
		r.order = unset
	}
}

// Raw reads n bytes.
func (r *Reader) Raw(n int) (string, api.Errno) {
	if r == nil || n < 0 || r.at%byteBits != 0 {
		return "", api.ErrArg
	}
	if n > r.Left()/byteBits {
		return "", api.ErrEnd
	}
	start := r.At()
	r.at += n * byteBits
	return r.text[start : start+n], api.OK
}

// At returns the number of bytes consumed, a partial one among them.
func (r *Reader) At() int {
	if r == nil {
		return 0
	}
	return whole(r.at)
}

// Left returns the number of bits that remain.
func (r *Reader) Left() int {
	if r == nil {
		return 0
	}
	return len(r.text)*byteBits - r.at
}
