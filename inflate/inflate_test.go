package inflate_test

import (
	"bytes"
	"compress/flate"
	"fmt"
	"math/rand"
	"slices"
	"strings"
	"testing"

	"foliant/api"
	"foliant/inflate"
)

// brief shows the beginning of anything.
func brief(x any) string { return fmt.Sprintf("%.200s", fmt.Sprintf("%q", fmt.Sprint(x))) }

// stream is a text of bits that is being written.
type stream struct{ strings.Builder }

// number writes numbers and how many bits they have.
func (s *stream) number(pairs ...int) {
	for i := 0; i < len(pairs); i += 2 {
		for j := range pairs[i+1] {
			s.WriteByte(byte('0' + pairs[i]>>j&1))
		}
	}
}

func (s *stream) raw(text string) {
	for s.Len()%8 != 0 {
		s.WriteByte('0')
	}
	for i := range len(text) {
		s.number(int(text[i]), 8)
	}
}

// fixed writes literals, sizes and the end with the fixed codes.
func (s *stream) fixed(signs ...int) {
	for _, sign := range signs {
		switch {
		case sign < 144:
			fmt.Fprintf(s, "%08b", sign+0x30)
		case sign < 256:
			fmt.Fprintf(s, "%09b", sign-144+0x190)
		case sign < 280:
			fmt.Fprintf(s, "%07b", sign-256)
		default:
			fmt.Fprintf(s, "%08b", sign-280+0xc0)
		}
	}
}

// copy writes a copy with the fixed codes.
func (s *stream) copy(size, sizeMore, far, farMore int) {
	s.fixed(size)
	s.number(sizeMore, sizeBits(size))
	fmt.Fprintf(s, "%05b", far)
	s.number(farMore, farBits(far))
}

// text returns the bytes of the bits.
func (s *stream) text() string {
	bits := s.String()
	for len(bits)%8 != 0 {
		bits += "0"
	}
	var b []byte
	for i := range len(bits) / 8 {
		v := byte(0)
		for j := range 8 {
			v |= (bits[8*i+j] - '0') << j
		}
		b = append(b, v)
	}
	return string(b)
}

// made returns a stream that write writes.
func made(write func(s *stream)) string {
	s := &stream{}
	write(s)
	return s.text()
}

// check holds an answer of All against the wanted one.
func check(t *testing.T, name, s string, most int, out string, used int, e api.Errno) {
	t.Helper()
	if got, n, err := inflate.All(s, most); got != out || n != used || err != e {
		t.Fatalf("%s: All(%s, %d) = %s, %d, %d, want %s, %d, %d", name, brief(s), most, brief(got), n, err, brief(out), used, e)
	}
}

// Promise 11.1.
func TestFixed(t *testing.T) {
	signs, fars := inflate.Fixed()
	if len(signs) != 288 || len(fars) != 32 {
		t.Fatalf("%d and %d lengths", len(signs), len(fars))
	}
	for sign, n := range signs {
		want := 8
		if sign >= 144 && sign <= 255 {
			want = 9
		}
		if sign >= 256 && sign <= 279 {
			want = 7
		}
		if n != want {
			t.Errorf("%d has %d bits, want %d", sign, n, want)
		}
	}
	if !slices.Equal(fars, slices.Repeat([]int{5}, 32)) {
		t.Errorf("distances have %v bits", fars)
	}
	signs[0], fars[0] = 1, 1
	if again, too := inflate.Fixed(); again[0] != 8 || too[0] != 5 {
		t.Errorf("what Fixed returns is shared")
	}
}

// checkScale holds Size or Far against its table, and against symbols and values that are none.
func checkScale(t *testing.T, name string, f func(sign, more int) (int, api.Errno), first int, table []int, bits func(sign int) int) {
	t.Helper()
	for i, base := range table {
		sign := first + i
		for more := range 1 << bits(sign) {
			if n, e := f(sign, more); n != base+more || e != api.OK {
				t.Fatalf("%s(%d, %d) = %d, %d, want %d", name, sign, more, n, e, base+more)
			}
		}
		for _, more := range []int{-1, 1 << bits(sign), 1 << 40, -1 << 62} {
			if n, e := f(sign, more); n != 0 || e != api.ErrArg {
				t.Errorf("%s(%d, %d) = %d, %d", name, sign, more, n, e)
			}
		}
	}
	for _, sign := range []int{first - 1, first - 100, first + len(table), first + len(table) + 100, -1, -1 << 62, 1 << 62} {
		if n, e := f(sign, 0); n != 0 || e != api.ErrArg {
			t.Errorf("%s(%d, 0) = %d, %d", name, sign, n, e)
		}
	}
}

// Promises 11.2 and 11.3.
func TestSizeAndFar(t *testing.T) {
	checkScale(t, "Size", inflate.Size, 257, bases(sizes), sizeBits)
	checkScale(t, "Far", inflate.Far, 0, bases(fars), farBits)
	a, _ := inflate.Size(284, 31)
	b, _ := inflate.Size(285, 0)
	c, _ := inflate.Far(29, 8191)
	if a != 258 || b != 258 || c != 32768 {
		t.Errorf("the examples are %d, %d and %d", a, b, c)
	}
}

// texts returns data of many kinds.
func texts() []string {
	r := rand.New(rand.NewSource(1))
	all := make([]byte, 3000)
	for i := range all {
		all[i] = byte(i * i / 7)
	}
	noise := make([]byte, 40000)
	r.Read(noise)
	few := make([]byte, 30000)
	for i := range few {
		few[i] = "abc\xff"[r.Intn(4)]
	}
	far := string(noise[:32768])
	return []string{"", "a", "\x00", "abcabcabcabc", strings.Repeat("z", 5000), string(all), string(noise), string(few), far + far[:300], far + "x" + far[:300],
		strings.Repeat("0000000016 00000 n \n", 700), strings.Repeat("BT /F1 12 Tf 72 700 Td (Hello) Tj ET\n", 50)}
}

// deflated compresses with another program.
func deflated(s string, level int) string {
	var b bytes.Buffer
	w, _ := flate.NewWriter(&b, level)
	w.Write([]byte(s))
	w.Close()
	return b.String()
}

// Promises 11.4 and 11.5: what another program compresses, whatever follows it, within the bytes that are allowed.
func TestOtherProgram(t *testing.T) {
	for i, text := range texts() {
		for _, level := range []int{flate.NoCompression, flate.BestSpeed, flate.BestCompression, flate.HuffmanOnly} {
			name := fmt.Sprint("text ", i, ", level ", level)
			s := deflated(text, level)
			for _, most := range []int{len(text), len(text) + 1, api.MaxData, api.MaxData + 1, 1 << 62} {
				check(t, name, s, most, text, len(s), api.OK)
				check(t, name+", more behind", s+"\xff\xff\x00", most, text, len(s), api.OK)
			}
			check(t, name, s, -1, "", 0, api.ErrArg)
			if text != "" {
				check(t, name, s, len(text)-1, "", 0, api.ErrLong)
				check(t, name, s, 0, "", 0, api.ErrLong)
			}
		}
	}
}

// Promise 11.4: what ends too early.
func TestCutShort(t *testing.T) {
	for i, text := range texts() {
		for _, level := range []int{flate.NoCompression, flate.BestCompression} {
			s := deflated(text, level)
			for n := 0; n < len(s); n += 1 + n/20 {
				check(t, fmt.Sprint("text ", i, " cut at ", n), s[:n], api.MaxData, "", 0, api.ErrEnd)
			}
			check(t, fmt.Sprint("text ", i), s[:len(s)-1], api.MaxData, "", 0, api.ErrEnd)
		}
	}
}

// Promise 11.4: as many bytes as are allowed at all, and more.
func TestMostBytes(t *testing.T) {
	text := strings.Repeat("ab", api.MaxData/2)
	s := deflated(text, flate.BestCompression)
	check(t, "most", s, api.MaxData, text, len(s), api.OK)
	check(t, "most", s, 1<<40, text, len(s), api.OK)
	check(t, "most", s, api.MaxData-1, "", 0, api.ErrLong)
	for _, level := range []int{flate.NoCompression, flate.HuffmanOnly, flate.BestCompression} {
		check(t, "more", deflated(text+"c", level), 1<<40, "", 0, api.ErrLong)
	}
}

// Promise 11.4: the examples.
func TestExamples(t *testing.T) {
	check(t, "stored", "\x01\x02\x00\xfd\xffab", 10, "ab", 7, api.OK)
	check(t, "fixed", "\x4b\x04\x00", 10, "a", 3, api.OK)
	check(t, "type 3", "\x07", 10, "", 0, api.ErrForm)
}

// Promises 11.4 and 11.5: stored blocks and blocks with the fixed codes, right and wrong.
func TestBlocks(t *testing.T) {
	for _, c := range []struct {
		name  string
		most  int
		out   string
		e     api.Errno
		write func(s *stream)
	}{
		{"two stored", 4, "abcd", api.OK, func(s *stream) {
			s.number(0, 3)
			s.raw("\x01\x00\xfe\xffa")
			s.number(0xf9, 8) // the last one, and bits that don't count
			s.raw("\x03\x00\xfc\xffbcd")
		}},
		{"stored, none", 0, "", api.OK, func(s *stream) { s.raw("\x01\x00\x00\xff\xff") }},
		{"stored, wrong number", 9, "", api.ErrForm, func(s *stream) { s.raw("\x01\x02\x00\xfc\xffab") }},
		{"stored, wrong number, no more", 9, "", api.ErrForm, func(s *stream) { s.raw("\x01\x02\x00\xfd\xfe") }},
		{"stored, same number", 9, "", api.ErrForm, func(s *stream) { s.raw("\x01\x02\x00\x02\x00ab") }},
		{"stored, too long and cut", 1, "", api.ErrLong, func(s *stream) { s.raw("\x01\x02\x00\xfd\xffa") }},
		{"stored, cut", 9, "", api.ErrEnd, func(s *stream) { s.raw("\x01\x02\x00\xfd\xffa") }},
		{"stored, cut number", 9, "", api.ErrEnd, func(s *stream) { s.raw("\x01\x02\x00\xfd") }},
		{"stored after literal, too long", 2, "", api.ErrLong, func(s *stream) {
			s.number(2, 3)
			s.fixed('a', 256)
			s.number(1, 3)
			s.raw("\x02\x00\xfd\xffbc")
		}},
		{"type 3, not last", 9, "", api.ErrForm, func(s *stream) { s.number(6, 3) }},
		{"type 3, after one", 9, "", api.ErrForm, func(s *stream) { s.number(2, 3); s.fixed('a', 256); s.number(7, 3) }},
		{"all literals", 256, string(everyByte()), api.OK, func(s *stream) {
			s.number(3, 3)
			for i := range 257 {
				s.fixed(i)
			}
		}},
		{"literal, too long", 1, "", api.ErrLong, func(s *stream) { s.number(3, 3); s.fixed('a', 'b', 256) }},
		{"copy of itself", 9, "ababababa", api.OK, func(s *stream) { s.number(3, 3); s.fixed('a', 'b'); s.copy(261, 0, 1, 0); s.fixed(256) }},
		{"copy, too long", 8, "", api.ErrLong, func(s *stream) { s.number(3, 3); s.fixed('a', 'b'); s.copy(261, 0, 1, 0); s.fixed(256) }},
		{"copy, too far", 9, "", api.ErrFar, func(s *stream) { s.number(3, 3); s.fixed('a', 'b'); s.copy(261, 0, 2, 0); s.fixed(256) }},
		{"copy, too far and too long", 2, "", api.ErrFar, func(s *stream) { s.number(3, 3); s.fixed('a', 'b'); s.copy(261, 0, 2, 0); s.fixed(256) }},
		{"copy of nothing", 9, "", api.ErrFar, func(s *stream) { s.number(3, 3); s.copy(257, 0, 0, 0) }},
		{"copy from the block before", 9, "aaaa", api.OK, func(s *stream) { s.number(2, 3); s.fixed('a', 256); s.number(3, 3); s.copy(257, 0, 0, 0); s.fixed(256) }},
		{"copy of most bytes", 300, strings.Repeat("a", 259), api.OK, func(s *stream) { s.number(3, 3); s.fixed('a'); s.copy(285, 0, 0, 0); s.fixed(256) }},
		{"the same in another way", 300, strings.Repeat("a", 259), api.OK, func(s *stream) { s.number(3, 3); s.fixed('a'); s.copy(284, 31, 0, 0); s.fixed(256) }},
		{"symbol 286", 9, "", api.ErrCode, func(s *stream) { s.number(3, 3); s.fixed('a', 286) }},
		{"symbol 287", 9, "", api.ErrCode, func(s *stream) { s.number(3, 3); s.fixed('a', 287) }},
		{"distance symbol 30", 9, "", api.ErrCode, func(s *stream) { s.number(3, 3); s.fixed('a'); s.copy(257, 0, 30, 0) }},
		{"distance symbol 31", 9, "", api.ErrCode, func(s *stream) { s.number(3, 3); s.copy(257, 0, 31, 0) }},
	} {
		text := made(c.write)
		used := len(text)
		if c.e != api.OK {
			used = 0
		}
		check(t, c.name, text, c.most, c.out, used, c.e)
		if c.e != api.ErrEnd {
			check(t, c.name+", more behind", text+"\xa5\x00", c.most, c.out, used, c.e)
		}
	}
}

// everyByte returns each byte once.
func everyByte() []byte {
	var b []byte
	for i := range 256 {
		b = append(b, byte(i))
	}
	return b
}

// compare holds All against the slow one.
func compare(t *testing.T, name, s string, most int) api.Errno {
	t.Helper()
	out, used, e := slowly(s, most)
	check(t, name, s, most, out, used, e)
	return e
}

// Promise 11.4: a copy that is cut anywhere: what ends too early is told before what is wrong with what follows.
func TestCutCopies(t *testing.T) {
	for before := range 9 { // literals of 9 bits, so that a byte ends at each bit of the copy
		for _, size := range []int{257, 270, 284, 285, 286} {
			for _, far := range []int{0, 7, 29, 30} {
				text := made(func(s *stream) {
					s.number(3, 3)
					s.fixed(slices.Repeat([]int{200}, before)...)
					s.copy(size, 0, far, 0)
					s.fixed(256)
				})
				for n := range len(text) + 1 {
					for _, most := range []int{0, before, before + 2, 300} {
						compare(t, fmt.Sprint(before, " bytes before ", size, " and ", far, " cut at ", n), text[:n], most)
					}
				}
			}
		}
	}
}

// own writes the head of a block with codes of its own: the code lengths are told by a code in which each of 1, 2, 4, 8 or 16 symbols has as many bits. It returns what writes such symbols, each with its extra bits.
func (s *stream) own(signs, fars int, told ...int) func(pairs ...int) {
	s.number(1, 1, 2, 2, signs-257, 5, fars-1, 5, 15, 4)
	bits := map[int]int{1: 1, 2: 1, 4: 2, 8: 3, 16: 4}[len(told)]
	for _, sign := range []int{16, 17, 18, 0, 8, 7, 9, 6, 10, 5, 11, 4, 12, 3, 13, 2, 14, 1, 15} {
		if slices.Contains(told, sign) {
			s.number(bits, 3)
		} else {
			s.number(0, 3)
		}
	}
	slices.Sort(told)
	return func(pairs ...int) {
		for i := 0; i < len(pairs); i += 2 {
			fmt.Fprintf(s, "%0*b", bits, slices.Index(told, pairs[i]))
			s.number(pairs[i+1], map[int]int{16: 2, 17: 3, 18: 7}[pairs[i]])
		}
	}
}

// Promise 11.4: blocks with codes of their own, right and wrong.
func TestOwnCodes(t *testing.T) {
	for _, c := range []struct {
		name  string
		out   string
		e     api.Errno
		write func(s *stream)
	}{
		{"the end alone", "", api.OK, func(s *stream) {
			s.own(257, 1, 18, 0, 1, 2)(18, 127, 18, 107, 1, 0, 0, 0)
			s.WriteString("0")
		}},
		{"the end alone, and the other bit", "", api.ErrCode, func(s *stream) {
			s.own(257, 1, 18, 0, 1, 2)(18, 127, 18, 107, 1, 0, 0, 0)
			s.WriteString("1")
		}},
		{"the end has no code", "", api.ErrCode, func(s *stream) { s.own(257, 1, 18, 0, 1, 2)(1, 0, 1, 0, 18, 127, 18, 105, 0, 0, 0, 0) }},
		{"the end alone, of two bits", "", api.ErrCode, func(s *stream) { s.own(257, 1, 18, 0, 1, 2)(18, 127, 18, 107, 2, 0, 0, 0) }},
		{"too many literals", "", api.ErrCode, func(s *stream) { s.own(257, 1, 18, 0, 1, 2)(1, 0, 1, 0, 18, 127, 18, 105, 1, 0, 0, 0) }},
		{"a distance of two bits", "", api.ErrCode, func(s *stream) { s.own(257, 1, 18, 0, 1, 2)(18, 127, 18, 107, 1, 0, 2, 0) }},
		{"three distances of one bit", "", api.ErrCode, func(s *stream) { s.own(257, 3, 18, 0, 1, 2)(18, 127, 18, 107, 1, 0, 1, 0, 1, 0, 1, 0) }},
		{"copies of a single distance", "aaaaaaa", api.OK, func(s *stream) {
			s.own(258, 1, 18, 0, 1, 2)(18, 86, 1, 0, 18, 127, 18, 9, 2, 0, 2, 0, 1, 0)
			s.WriteString("0" + "11" + "0" + "11" + "0" + "10")
		}},
		{"a copy of the other bit", "", api.ErrCode, func(s *stream) {
			s.own(258, 1, 18, 0, 1, 2)(18, 86, 1, 0, 18, 127, 18, 9, 2, 0, 2, 0, 1, 0)
			s.WriteString("0" + "11" + "1" + "10")
		}},
		{"a copy without distances", "", api.ErrCode, func(s *stream) {
			s.own(258, 1, 18, 0, 1, 2)(18, 86, 1, 0, 18, 127, 18, 9, 2, 0, 2, 0, 0, 0)
			s.WriteString("0" + "11")
		}},
		{"a length repeated from the one list into the other", "abab", api.OK, func(s *stream) {
			s.own(258, 4, 18, 16, 0, 2)(18, 86, 2, 0, 2, 0, 18, 127, 18, 8, 2, 0, 16, 2)
			s.WriteString("00" + "01" + "00" + "01" + "10")
		}},
		{"a length repeated twice", "ad", api.OK, func(s *stream) {
			s.own(258, 1, 18, 16, 0, 3)(18, 86, 3, 0, 16, 0, 16, 0, 18, 127, 18, 3, 3, 0, 0, 0, 0, 0)
			s.WriteString("000" + "011" + "111")
		}},
		{"zeros repeated as the length before", "", api.OK, func(s *stream) {
			s.own(257, 1, 16, 0, 1, 18)(0, 0, 16, 3, 18, 127, 18, 100, 1, 0, 0, 0)
			s.WriteString("0")
		}},
		{"short runs of zeros", "", api.OK, func(s *stream) {
			s.own(257, 11, 17, 18, 1, 0)(17, 0, 17, 7, 18, 127, 18, 94, 1, 0, 17, 7, 0, 0)
			s.WriteString("0")
		}},
		{"nothing to repeat", "", api.ErrForm, func(s *stream) { s.own(257, 1, 16, 0, 1, 18)(16, 0) }},
		{"too many lengths by 16", "", api.ErrForm, func(s *stream) { s.own(257, 1, 16, 0, 1, 18)(18, 127, 18, 107, 1, 0, 16, 0) }},
		{"too many lengths by 17", "", api.ErrForm, func(s *stream) { s.own(257, 2, 17, 0, 1, 18)(18, 127, 18, 107, 1, 0, 17, 0) }},
		{"too many lengths by 18", "", api.ErrForm, func(s *stream) { s.own(257, 1, 16, 0, 1, 18)(18, 127, 18, 127) }},
		{"too many lengths by one, where the end has no code", "", api.ErrForm, func(s *stream) { s.own(257, 1, 16, 0, 1, 18)(18, 127, 18, 110) }},
		{"all zeros", "", api.ErrCode, func(s *stream) { s.own(257, 1, 16, 0, 1, 18)(18, 127, 18, 109) }},
		{"a code of code lengths that has one symbol, of one bit", "", api.ErrCode, func(s *stream) { s.own(257, 1, 18)(18, 127, 18, 109) }},
		{"the same, and the other bit", "", api.ErrCode, func(s *stream) { s.own(257, 1, 18); s.WriteString("1") }},
		{"286 and 30 symbols", "", api.OK, func(s *stream) {
			s.own(286, 30, 17, 18, 1, 0)(18, 127, 18, 107, 1, 0, 18, 48)
			s.WriteString("0")
		}},
		{"287 symbols", "", api.ErrForm, func(s *stream) { s.number(1, 1, 2, 2, 30, 5) }},
		{"288 symbols", "", api.ErrForm, func(s *stream) { s.number(1, 1, 2, 2, 31, 5, 31, 5) }},
		{"31 distances", "", api.ErrForm, func(s *stream) { s.number(1, 1, 2, 2, 29, 5, 30, 5) }},
		{"32 distances", "", api.ErrForm, func(s *stream) { s.number(1, 1, 2, 2, 29, 5, 31, 5) }},
		{"no code for code lengths", "", api.ErrCode, func(s *stream) { s.number(1, 1, 2, 2, 0, 5, 0, 5, 0, 4, 0, 12) }},
		{"a code for code lengths of one symbol of two bits", "", api.ErrCode, func(s *stream) { s.number(1, 1, 2, 2, 0, 5, 0, 5, 0, 4, 2, 12) }},
		{"a code for code lengths without room", "", api.ErrCode, func(s *stream) { s.number(1, 1, 2, 2, 0, 5, 0, 5, 0, 4, 1+8+64, 12) }},
	} {
		text := made(c.write)
		if e := compare(t, c.name, text, 100); e != c.e {
			t.Errorf("%s: %d, want %d", c.name, e, c.e)
		}
		if out, _, _ := inflate.All(text, 100); out != c.out {
			t.Errorf("%s: %q, want %q", c.name, out, c.out)
		}
		for n := range len(text) {
			compare(t, fmt.Sprint(c.name, " cut at ", n), text[:n], 100)
		}
	}
}

// Promises 11.4 and 11.5: streams in which bits are changed, and noise.
func TestChangedBits(t *testing.T) {
	r := rand.New(rand.NewSource(1))
	seen := map[api.Errno]int{}
	for i, text := range []string{"a", "abcabcabcabcabcaabbcc", "the quick brown fox, the quick brown dog, the slow brown fox, and other words that are here", strings.Repeat("0000000016 00000 n \n", 5)} {
		for _, level := range []int{flate.NoCompression, flate.BestCompression, flate.HuffmanOnly} {
			s := deflated(text, level)
			for range 400 {
				b := []byte(s)
				for range 1 + r.Intn(3) {
					b[r.Intn(min(len(b), 40))] ^= 1 << r.Intn(8)
				}
				seen[compare(t, fmt.Sprint("text ", i, ", level ", level), string(b), 50+r.Intn(100))]++
			}
		}
	}
	for i := range 3000 {
		b := make([]byte, 60)
		r.Read(b)
		b[0] = b[0]&^7 | byte(2*r.Intn(3)+r.Intn(2))
		seen[compare(t, fmt.Sprint("noise ", i), string(b), 1000)]++
	}
	for _, e := range []api.Errno{api.OK, api.ErrForm, api.ErrEnd, api.ErrLong, api.ErrCode, api.ErrFar} {
		if seen[e] == 0 {
			t.Errorf("the error %d is never seen: %v", e, seen)
		}
	}
}
