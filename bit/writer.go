package bit

import "foliant/api"

// Writer builds a string, bit by bit.
type Writer struct {
	text  []byte // a partial byte has zero bits where nothing is written yet
	part  int    // bits of the last byte that are written, if it is partial
	order order
}

// New returns an empty writer.
func New() *Writer { return &Writer{} }

// Low writes v as a number of n bits, the least significant one first.
func (w *Writer) Low(v, n int) api.Errno {
	if e := w.begin(v, n, low); e != api.OK {
		return e
	}
	for i := range n {
		w.next(v >> i & 1)
	}
	return api.OK
}

// High writes v as a number of n bits, the most significant one first.
func (w *Writer) High(v, n int) api.Errno {
	if e := w.begin(v, n, high); e != api.OK {
		return e
	}
	for i := range n {
		w.next(v >> (n - 1 - i) & 1)
	}
	return api.OK
}

// begin sets the order in which the n bits of v are written next, if they can be.
func (w *Writer) begin(v, n int, o order) api.Errno {
	if w == nil || !fits(n, w.order, o) || v < 0 || v >= 1<<n {
		return api.ErrArg
	}
	if n > 0 {
		w.order = o
	}
	return api.OK
}

// next writes one bit.
func (w *Writer) next(b int) {
	if w.part == 0 {
		w.text = append(w.text, 0)
	}
	w.text[len(w.text)-1] |= byte(b << place(w.part, w.order))
	w.part = (w.part + 1) % byteBits
}

// Align fills a partial byte with zero bits.
func (w *Writer) Align() {
	if w != nil {
		w.part = 0
		w.order = unset
	}
}

// Raw writes the bytes of a string, after a partial byte is filled.
func (w *Writer) Raw(s string) {
	if w == nil {
		return
	}
	if w.part > 0 {
		w.Align()
	}
	w.text = append(w.text, s...)
}

// Len returns the number of bytes, a partial one among them.
func (w *Writer) Len() int {
	if w == nil {
		return 0
	}
	return len(w.text)
}

// Text returns the bytes written, a partial one filled with zero bits.
func (w *Writer) Text() string {
	if w == nil {
		return ""
	}
	return string(w.text)
}
