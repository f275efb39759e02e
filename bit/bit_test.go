package bit_test

import (
	"fmt"
	"math/rand"
	"slices"
	"strconv"
	"strings"
	"testing"

	"foliant/api"
	"foliant/bit"
)

// call is one call of a method: L, H and R take n, and W stands for Raw of a writer.
type call struct {
	name string
	v, n int
	text string
}

func (c call) String() string { return fmt.Sprintf("%s(%d, %d, %q)", c.name, c.v, c.n, c.text) }

// answer is what a call answers, and what At and Left, or Len and Text, answer after it.
type answer struct {
	v        int
	text     string
	e        api.Errno
	at, left int
	whole    string
}

// bits returns the bits of a byte in the order in which they are taken.
func bits(b byte, name string) string {
	s := []byte(fmt.Sprintf("%08b", b))
	if name == "L" {
		slices.Reverse(s)
	}
	return string(s)
}

// number returns the number that bits stand for.
func number(s, name string) int {
	b := []byte("0" + s)
	if name == "L" {
		b = []byte(s + "0")
		slices.Reverse(b)
	}
	n, _ := strconv.ParseInt(string(b), 2, 64)
	return int(n)
}

// slowReader is the reader of the chapter, by words of zeros and ones.
type slowReader struct {
	text string
	used int
	name string
}

// rest returns the bits that remain, when they are taken in an order.
func (r *slowReader) rest(name string) string {
	var b strings.Builder
	for i := range len(r.text) {
		b.WriteString(bits(r.text[i], name))
	}
	return b.String()[r.used:]
}

func (r *slowReader) do(c call) (a answer) {
	rest := r.rest(c.name)
	switch {
	case c.name == "A":
		r.used, r.name = (r.used+7)/8*8, ""
	case c.name == "R" && (c.n < 0 || r.used%8 != 0):
		a.e = api.ErrArg
	case c.name == "R" && c.n*8 > len(rest):
		a.e = api.ErrEnd
	case c.name == "R":
		a.text = r.text[r.used/8:][:c.n]
		r.used += 8 * c.n
	case c.n < 0 || c.n > 24 || r.name != "" && r.name != c.name:
		a.e = api.ErrArg
	case c.n > len(rest):
		a.e = api.ErrEnd
	case c.n > 0:
		a.v = number(rest[:c.n], c.name)
		r.used, r.name = r.used+c.n, c.name
	}
	a.at, a.left = (r.used+7)/8, len(r.rest("H"))
	return a
}

func doReader(r *bit.Reader, c call) (a answer) {
	switch c.name {
	case "L":
		a.v, a.e = r.Low(c.n)
	case "H":
		a.v, a.e = r.High(c.n)
	case "A":
		r.Align()
	case "R":
		a.text, a.e = r.Raw(c.n)
	}
	a.at, a.left = r.At(), r.Left()
	return a
}

// sequences calls f with each sequence of calls of a length.
func sequences(calls []call, n int, f func([]call)) {
	var more func(l []call)
	more = func(l []call) {
		if len(l) == n {
			f(l)
			return
		}
		for _, c := range calls {
			more(append(l, c))
		}
	}
	more(nil)
}

// mixed calls f with many a long sequence, and with each short one.
func mixed(calls []call, f func([]call)) {
	sequences(calls, 3, f)
	r := rand.New(rand.NewSource(1))
	for range 3000 {
		l := make([]call, 12)
		for i := range l {
			l[i] = calls[r.Intn(len(calls))]
		}
		f(l)
	}
}

// Promise 9.1: each sequence of calls answers what the words of the chapter say.
func TestReaderSequences(t *testing.T) {
	var calls []call
	for _, n := range []int{-1, 0, 1, 3, 8, 13, 24, 25} {
		calls = append(calls, call{name: "L", n: n}, call{name: "H", n: n})
	}
	calls = append(calls, call{name: "A"}, call{name: "R", n: -1}, call{name: "R", n: 0}, call{name: "R", n: 1}, call{name: "R", n: 3}, call{name: "R", n: 1 << 30})
	for _, text := range []string{"", "\xca", "\xca\x01\xf3", "\x80\x35\xff\x00\x17\xae\xc9"} {
		mixed(calls, func(l []call) {
			r, slow := bit.From(text), &slowReader{text: text}
			for i, c := range l {
				if got, want := doReader(r, c), slow.do(c); got != want {
					t.Fatalf("%q: %v: %+v, want %+v", text, l[:i+1], got, want)
				}
			}
		})
	}
}

// slowWriter is the writer of the chapter.
type slowWriter struct {
	text []byte // the whole bytes
	part string // the bits of the last, in their order
	name string
}

func (w *slowWriter) put(s, name string) {
	for _, b := range s {
		w.part += string(b)
		if len(w.part) == 8 {
			w.text = append(w.text, byte(number(w.part, name)))
			w.part = ""
		}
	}
}

func (w *slowWriter) whole() []byte {
	if w.part == "" {
		return slices.Clone(w.text)
	}
	return append(slices.Clone(w.text), byte(number((w.part + "0000000")[:8], w.name)))
}

func (w *slowWriter) do(c call) (a answer) {
	switch {
	case c.name == "A" || c.name == "W":
		if c.name == "A" || w.part != "" {
			w.text, w.part, w.name = w.whole(), "", ""
		}
		w.text = append(w.text, c.text...)
	case c.n < 0 || c.n > 24 || c.v < 0 || c.v >= 1<<c.n || w.name != "" && w.name != c.name:
		a.e = api.ErrArg
	case c.n > 0:
		b := []byte(fmt.Sprintf("%0*b", c.n, c.v))
		if c.name == "L" {
			slices.Reverse(b)
		}
		w.name = c.name
		w.put(string(b), c.name)
	}
	a.at, a.whole = len(w.whole()), string(w.whole())
	return a
}

func doWriter(w *bit.Writer, c call) (a answer) {
	switch c.name {
	case "L":
		a.e = w.Low(c.v, c.n)
	case "H":
		a.e = w.High(c.v, c.n)
	case "A":
		w.Align()
	case "W":
		w.Raw(c.text)
	}
	a.whole = w.Text()
	a.at = w.Len()
	return a
}

// Promise 9.2: each sequence of calls answers what the words of the chapter say.
func TestWriterSequences(t *testing.T) {
	var calls []call
	for _, c := range []call{{v: 0, n: 0}, {v: 1, n: 0}, {v: 1, n: 1}, {v: 2, n: 1}, {v: 5, n: 3}, {v: 0xca, n: 8}, {v: 0x1735, n: 13}, {v: 0xc0ffe1, n: 24}, {v: 1 << 24, n: 24}, {v: 1, n: 25}, {v: 0, n: -1}, {v: -1, n: 4}, {v: -1, n: 0}} {
		calls = append(calls, call{"L", c.v, c.n, ""}, call{"H", c.v, c.n, ""})
	}
	calls = append(calls, call{name: "A"}, call{name: "W"}, call{name: "W", text: "A"}, call{name: "W", text: "\xff\x00\x81"})
	mixed(calls, func(l []call) {
		w, slow := bit.New(), &slowWriter{}
		for i, c := range l {
			if got, want := doWriter(w, c), slow.do(c); got != want {
				t.Fatalf("%v: %+v, want %+v", l[:i+1], got, want)
			}
		}
	})
}

// Promises 9.1 and 9.2: every number of bits, at every place in a byte.
func TestNumbers(t *testing.T) {
	for n := range 25 {
		for _, v := range []int{0, 1, 0x555555, 0xaaaaaa, 0xc0ffe1, 0xffffff} {
			v &= 1<<n - 1
			for before := range 9 {
				low, high := bit.New(), bit.New()
				if low.Low(0, before) != api.OK || low.Low(v, n) != api.OK || low.Low(1, 1) != api.OK || high.High(0, before) != api.OK || high.High(v, n) != api.OK || high.High(1, 1) != api.OK {
					t.Fatalf("%d as %d bits after %d isn't written", v, n, before)
				}
				checkNumber(t, v, n, before, low.Text(), (*bit.Reader).Low)
				checkNumber(t, v, n, before, high.Text(), (*bit.Reader).High)
			}
		}
	}
}

// checkNumber reads a number of n bits, after some zero bits and before a one.
func checkNumber(t *testing.T, v, n, before int, text string, read func(*bit.Reader, int) (int, api.Errno)) {
	t.Helper()
	r := bit.From(text)
	zero, e0 := read(r, before)
	got, e1 := read(r, n)
	one, e2 := read(r, 1)
	if zero != 0 || got != v || one != 1 || e0 != api.OK || e1 != api.OK || e2 != api.OK || r.At() != len(text) || len(text) != (before+n+8)/8 {
		t.Fatalf("%d as %d bits after %d, in %x: %d %d, %d %d, %d %d", v, n, before, text, zero, e0, got, e1, one, e2)
	}
}

// Promises 9.1 and 9.2: the examples.
func TestExamples(t *testing.T) {
	for _, c := range []struct {
		calls []call
		want  []int
	}{
		{[]call{{name: "L", n: 4}, {name: "L", n: 4}}, []int{10, 12}},
		{[]call{{name: "H", n: 4}, {name: "H", n: 4}}, []int{12, 10}},
	} {
		r := bit.From("\xca")
		for i, call := range c.calls {
			if a := doReader(r, call); a.v != c.want[i] || a.e != api.OK {
				t.Errorf("%v of 202 = %d, %d, want %d", call, a.v, a.e, c.want[i])
			}
		}
	}
	r := bit.From("\xca")
	if v, e := r.Low(3); v != 2 || e != api.OK {
		t.Errorf("Low(3) of 202 = %d, %d", v, e)
	}
	if v, e := r.High(1); v != 0 || e != api.ErrArg || r.Left() != 5 {
		t.Errorf("High(1) after it = %d, %d", v, e)
	}
	w := bit.New()
	if w.Low(1, 1) != api.OK || w.Low(2, 2) != api.OK || w.Text() != "\x05" {
		t.Errorf("Low(1, 1), Low(2, 2): %q", w.Text())
	}
	w.Raw("A")
	if w.Text() != "\x05A" || w.Len() != 2 {
		t.Errorf("after Raw: %q, %d", w.Text(), w.Len())
	}
}

// Promise 9.2: what Text returns stays as it is.
func TestTextStays(t *testing.T) {
	w := bit.New()
	w.Raw("ab")
	first := w.Text()
	w.Low(5, 3)
	second := w.Text()
	w.Low(31, 5)
	w.Raw("c")
	if first != "ab" || second != "ab\x05" || w.Text() != "ab\xfdc" {
		t.Errorf("%q, %q, %q", first, second, w.Text())
	}
}

// Promises 9.1 and 9.2: without a reader or a writer.
func TestNil(t *testing.T) {
	var r *bit.Reader
	for _, c := range []call{{name: "L", n: 0}, {name: "L", n: 1}, {name: "H", n: 0}, {name: "H", n: 1}, {name: "R", n: 0}, {name: "R", n: 1}} {
		if a := doReader(r, c); a != (answer{e: api.ErrArg}) {
			t.Errorf("%v = %+v", c, a)
		}
	}
	if a := doReader(r, call{name: "A"}); a != (answer{}) {
		t.Errorf("Align = %+v", a)
	}
	var w *bit.Writer
	for _, name := range []string{"L", "H"} {
		if a := doWriter(w, call{name: name}); a != (answer{e: api.ErrArg}) {
			t.Errorf("%s = %+v", name, a)
		}
	}
	for _, name := range []string{"A", "W"} {
		if a := doWriter(w, call{name: name, text: "x"}); a != (answer{}) {
			t.Errorf("%s = %+v", name, a)
		}
	}
}

// Promise 9.3.
func TestRoundTrip(t *testing.T) {
	calls := []call{{"L", 5, 3, ""}, {"L", 0, 0, ""}, {"L", 300, 9, ""}, {"H", 5, 3, ""}, {"H", 300, 9, ""}, {"H", 0xabcdef, 24, ""}, {name: "A"}}
	sequences(calls, 5, func(l []call) {
		w := bit.New()
		var written []call
		for _, c := range l {
			if a := doWriter(w, c); a.e == api.OK {
				written = append(written, c)
			}
		}
		r := bit.From(w.Text())
		for _, c := range written {
			if a := doReader(r, c); a.v != c.v || a.e != api.OK {
				t.Fatalf("%v: %v reads %+v", written, c, a)
			}
		}
		if r.At() != w.Len() {
			t.Fatalf("%v: %d bytes of %d are read", written, r.At(), w.Len())
		}
	})
}

// Promise 9.4.
func TestSplit(t *testing.T) {
	text := "\xca\x35\x81\x7e"
	for before := range 8 {
		for n := range 25 {
			for m := range 25 - n {
				checkSplit(t, text, before, n, m, (*bit.Reader).Low, func(x, y int) int { return y<<n + x })
				checkSplit(t, text, before, n, m, (*bit.Reader).High, func(x, y int) int { return x<<m + y })
			}
		}
	}
}

func checkSplit(t *testing.T, text string, before, n, m int, read func(*bit.Reader, int) (int, api.Errno), sum func(x, y int) int) {
	t.Helper()
	two, one := bit.From(text), bit.From(text)
	read(two, before)
	read(one, before)
	x, _ := read(two, n)
	y, _ := read(two, m)
	if both, e := read(one, n+m); both != sum(x, y) || e != api.OK || one.Left() != two.Left() {
		t.Fatalf("after %d, %d and %d bits: %d, %d, and %d at once", before, n, m, x, y, both)
	}
}
