package inflate

import (
	"foliant/alphabet"
	"foliant/api"
	"foliant/bit"
	"foliant/code"
	"foliant/give"
)

// reader decompresses one string, and gives up with the first error.
type reader struct {
	bits  *bit.Reader
	out   []byte
	most  int
	fixed *codes // made when it is first needed
}

// codes are the codes of one block.
type codes struct{ signs, distances *code.Table }

func (r *reader) all() string {
	for last := false; !last; {
		last = r.number(1) == 1
		r.block(r.number(2))
	}
	return string(r.out)
}

// number reads a number of n bits.
func (r *reader) number(n int) int { return give.Value(r.bits.Low(n)) }

func (r *reader) block(kind int) {
	switch kind {
	case alphabet.Stored:
		r.stored()
	case alphabet.Fixed:
		if r.fixed == nil {
			r.fixed = newCodes(Fixed())
		}
		r.symbols(r.fixed)
	case alphabet.Dynamic:
		r.symbols(r.dynamic())
	default:
		give.Up(api.ErrForm)
	}
}

func newCodes(signs, distances []int) *codes {
	return &codes{give.Value(code.New(signs)), give.Value(code.New(distances))}
}

func (r *reader) stored() {
	r.bits.Align()
	n := r.number(16)
	if r.number(16) != 1<<16-1-n {
		give.Up(api.ErrForm)
	}
	r.room(n)
	r.out = append(r.out, give.Value(r.bits.Raw(n))...)
}

// room gives up if there is none for n more bytes.
func (r *reader) room(n int) {
	if n > r.most-len(r.out) {
		give.Up(api.ErrLong)
	}
}

// symbols reads what the codes of a block tell.
func (r *reader) symbols(c *codes) {
	for {
		sign := give.Value(c.signs.Read(r.bits))
		switch {
		case sign < alphabet.End:
			r.room(1)
			r.out = append(r.out, byte(sign))
		case sign == alphabet.End:
			return
		case sign > alphabet.LastSize:
			give.Up(api.ErrCode)
		default:
			r.copy(sign, c.distances)
		}
	}
}

// copy reads the rest of a copy, and appends what it copies.
func (r *reader) copy(sign int, distances *code.Table) {
	_, bits := size(sign)
	n := give.Value(Size(sign, r.number(bits)))
	sign = give.Value(distances.Read(r.bits))
	if sign > alphabet.LastFar {
		give.Up(api.ErrCode)
	}
	_, bits = far(sign)
	back := give.Value(Far(sign, r.number(bits)))
	if back > len(r.out) {
		give.Up(api.ErrFar)
	}
	r.room(n)
	for range n {
		r.out = append(r.out, r.out[len(r.out)-back])
	}
}
