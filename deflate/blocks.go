package deflate

import (
	"slices"

	"foliant/alphabet"
	"foliant/bit"
	"foliant/code"
	"foliant/give"
	"foliant/inflate"
)

// writer writes the bits of a stream.
type writer struct{ bits *bit.Writer }

func newWriter() writer { return writer{bit.New()} }

// number writes v as a number of n bits.
func (w writer) number(v, n int) { give.UpOn(w.bits.Low(v, n)) }

// open writes the beginning of a block.
func (w writer) open(last bool, kind int) {
	final := 0
	if last {
		final = 1
	}
	w.number(final, 1)
	w.number(kind, 2)
}

// stored returns a stream that stores s as it is.
func stored(s string) string {
	w := newWriter()
	for last := false; !last; {
		n := min(len(s), alphabet.MostStored)
		last = n == len(s)
		w.open(last, alphabet.Stored)
		w.bits.Align()
		w.number(n, 16)
		w.number(alphabet.MostStored-n, 16)
		w.bits.Raw(s[:n])
		s = s[n:]
	}
	return w.bits.Text()
}

// fixed returns a stream of one block with the fixed codes.
func fixed(parts []Part) string {
	w := newWriter()
	w.open(true, alphabet.Fixed)
	w.parts(parts, newTables(inflate.Fixed()))
	return w.bits.Text()
}

// dynamic returns a stream of one block with the codes that suit it best.
func dynamic(parts []Part) string {
	signs, fars := suited(parts)
	w := newWriter()
	w.open(true, alphabet.Dynamic)
	w.number(len(signs)-alphabet.FirstSize, 5)
	w.number(len(fars)-1, 5)
	w.lengths(slices.Concat(signs, fars))
	w.parts(parts, newTables(signs, fars))
	return w.bits.Text()
}

// tables are the codes of one block.
type tables struct{ signs, fars *code.Table }

func newTables(signs, fars []int) tables {
	return tables{give.Value(code.New(signs)), give.Value(code.New(fars))}
}

// parts writes the symbols of a block.
func (w writer) parts(parts []Part, t tables) {
	for _, p := range parts {
		if p.literal() {
			w.symbol(t.signs, int(p.Byte), 0, 0)
			continue
		}
		sign, more, bits, _ := Sign(p.Size)
		w.symbol(t.signs, sign, more, bits)
		sign, more, bits, _ = Back(p.Far)
		w.symbol(t.fars, sign, more, bits)
	}
	w.symbol(t.signs, alphabet.End, 0, 0)
}

// symbol writes a symbol and its extra bits.
func (w writer) symbol(t *code.Table, sign, more, bits int) {
	give.UpOn(t.Write(w.bits, sign))
	w.number(more, bits)
}
