package deflate

import (
	"foliant/alphabet"
	"foliant/api"
)

// Part is described in chapter 12.
type Part struct {
	Byte byte
	Size int
	Far  int
}

// Parts returns the parse of s.
func Parts(s string) []Part {
	if len(s) > api.MaxData {
		return nil
	}
	var l []Part
	f := newFinder(s)
	for at := 0; at < len(s); {
		p := Part{Byte: s[at]}
		if size, far := f.longest(); size > 0 {
			p = Part{Size: size, Far: far}
		}
		l = append(l, p)
		n := max(1, p.Size)
		f.pass(n)
		at += n
	}
	return l
}

// Unparts returns the bytes that parts stand for.
func Unparts(l []Part) (string, api.Errno) {
	var out []byte
	for _, p := range l {
		switch {
		case !p.valid():
			return "", api.ErrArg
		case p.Far > len(out):
			return "", api.ErrFar
		case max(1, p.Size) > api.MaxData-len(out):
			return "", api.ErrLong
		case p.literal():
			out = append(out, p.Byte)
		}
		for range p.Size {
			out = append(out, out[len(out)-p.Far])
		}
	}
	return string(out), api.OK
}

func (p Part) literal() bool { return p.Size == 0 && p.Far == 0 }

func (p Part) valid() bool {
	return p.literal() || p.Byte == 0 && p.Size >= alphabet.LeastSize && p.Size <= api.MaxCopy && p.Far >= alphabet.LeastFar && p.Far <= api.Window
}
