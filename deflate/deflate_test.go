package deflate_test

import (
	"bytes"
	"compress/flate"
	"fmt"
	"io"
	"math/rand"
	"slices"
	"strings"
	"testing"

	"foliant/api"
	"foliant/deflate"
	"foliant/inflate"
)

// brief shows the beginning of anything.
func brief(x any) string { return fmt.Sprintf("%.200s", fmt.Sprintf("%q", fmt.Sprint(x))) }

// noise returns n bytes, each one of so many.
func noise(seed int64, n, kinds int) string {
	r := rand.New(rand.NewSource(seed))
	b := make([]byte, n)
	for i := range b {
		b[i] = byte(r.Intn(kinds))
	}
	return string(b)
}

// texts returns data of many kinds.
func texts() []string {
	far := noise(1, 300, 256)
	var table strings.Builder
	for i := range 1500 {
		fmt.Fprintf(&table, "%010d 00000 n \n", 17*i+i*i%11)
	}
	return []string{"", "a", "ab", "aaa", "aaaa", "abcabcab", strings.Repeat("z", 70000), strings.Repeat("ab", 600), noise(2, 1000, 256), noise(3, 20000, 3), noise(4, 5000, 9), noise(5, 66000, 1),
		far + strings.Repeat("-", api.Window-300) + far, far + strings.Repeat("-+", api.Window/2-149) + far + far, table.String(), strings.Repeat("BT /F1 12 Tf 72 700 Td (Hello) Tj ET\n", 50),
		noise(6, 65534, 1) + "x", noise(7, 65535, 1) + "x", string(everyByte()), string(everyByte()) + noise(8, 3000, 2)}
}

// everyByte returns each byte once.
func everyByte() []byte {
	var b []byte
	for i := range 256 {
		b = append(b, byte(i))
	}
	return b
}

// longest looks at each place before a position for the longest match there, and takes the nearest one.
func longest(s string, at int) (size, far int) {
	limit := min(api.MaxCopy, len(s)-at)
	for back := 1; back <= min(at, api.Window) && size < limit; back++ {
		if size > 0 && s[at-back+size] != s[at+size] {
			continue
		}
		n := 0
		for n < limit && s[at-back+n] == s[at+n] {
			n++
		}
		if n >= 3 && n > size {
			size, far = n, back
		}
	}
	return size, far
}

// parsed is the parse of s.
func parsed(s string) []deflate.Part {
	var l []deflate.Part
	for at := 0; at < len(s); {
		size, far := longest(s, at)
		if size == 0 {
			l = append(l, deflate.Part{Byte: s[at]})
			at++
			continue
		}
		l = append(l, deflate.Part{Size: size, Far: far})
		at += size
	}
	return l
}

// checkParts holds the parse of s against promises 12.2 and 12.4.
func checkParts(t *testing.T, s string) {
	t.Helper()
	got, want := deflate.Parts(s), parsed(s)
	for i := range min(len(got), len(want)) {
		if got[i] != want[i] {
			t.Fatalf("Parts(%s): part %d is %v, want %v", brief(s), i, got[i], want[i])
		}
	}
	if len(got) != len(want) {
		t.Fatalf("Parts(%s): %d parts, want %d", brief(s), len(got), len(want))
	}
	if back, e := deflate.Unparts(got); back != s || e != api.OK {
		t.Fatalf("Unparts of the parts of %s = %s, %d", brief(s), brief(back), e)
	}
}

// Promises 12.2 and 12.4.
func TestParts(t *testing.T) {
	for _, s := range texts() {
		checkParts(t, s)
	}
	for n := range 11 {
		for i := range 1 << n {
			checkParts(t, fmt.Sprintf("%0*b", n, i))
		}
	}
	for i := range 2000 {
		checkParts(t, noise(int64(i), 20+i%70, 1+i%7))
	}
}

// Promise 12.4: matches of each size that a row of the finder may hold, at many distances, the nearer ones shorter.
func TestSizes(t *testing.T) {
	text := noise(1, 300, 256)
	for n := 2; n <= 262; n++ {
		for _, gap := range []string{"", "-", strings.Repeat("-", 40), strings.Repeat("+-", 500)} {
			checkParts(t, text[:n]+"!"+gap+text[:n/2]+"?"+gap+text[:n]+"*")
			checkParts(t, text[:n]+gap+text[:n])
		}
	}
}

// Promise 12.4: the borders of the window.
func TestWindow(t *testing.T) {
	for _, word := range []string{"xyz", "xyzw", "xyzuvwtsrqponmlk", noise(9, 130, 200), noise(10, 258, 200), noise(11, 300, 200)} {
		for away := api.Window - 3; away <= api.Window+3; away++ {
			s := word + strings.Repeat("\xfe\xff", api.Window)[:away-len(word)] + word
			checkParts(t, s+"!")
			checkParts(t, s)
			checkParts(t, word[:3]+s+word)
			checkParts(t, strings.Repeat("\xfd", 70000)+s)
		}
	}
}

// Promise 12.2: the examples.
func TestPartsExamples(t *testing.T) {
	for s, want := range map[string][]deflate.Part{
		"abcabcab": {{Byte: 'a'}, {Byte: 'b'}, {Byte: 'c'}, {Size: 5, Far: 3}},
		"aaaa":     {{Byte: 'a'}, {Size: 3, Far: 1}},
		"":         nil,
	} {
		if got := deflate.Parts(s); !slices.Equal(got, want) {
			t.Errorf("Parts(%s) = %v, want %v", s, got, want)
		}
	}
}

// Promises 12.1 and 12.2: as many bytes as are allowed, and one more.
func TestMostBytes(t *testing.T) {
	most := strings.Repeat("\x00", api.MaxData)
	parts := deflate.Parts(most)
	if s, e := deflate.Unparts(parts); s != most || e != api.OK {
		t.Errorf("Unparts = %d bytes, %d", len(s), e)
	}
	for _, more := range []deflate.Part{{Byte: 1}, {Size: 3, Far: 1}} {
		if s, e := deflate.Unparts(append(slices.Clone(parts), more)); s != "" || e != api.ErrLong {
			t.Errorf("Unparts of one more = %d bytes, %d", len(s), e)
		}
	}
	if l := deflate.Parts(most + "\x00"); l != nil {
		t.Errorf("Parts of one more = %d parts", len(l))
	}
	for level := range 3 {
		checkAll(t, most, level)
		if s, e := deflate.All(most+"\x00", level); s != "" || e != api.ErrLong {
			t.Errorf("All of one more = %d bytes, %d", len(s), e)
		}
	}
	if s, e := deflate.All(most+"\x00", 3); s != "" || e != api.ErrArg {
		t.Errorf("All of one more on level 3 = %d bytes, %d", len(s), e)
	}
}

// Promise 12.2.
func TestUnparts(t *testing.T) {
	a, b := deflate.Part{Byte: 'a'}, deflate.Part{Byte: 'b'}
	full := deflate.Parts(strings.Repeat("\x00", api.MaxData-1))
	window := deflate.Parts(strings.Repeat("\x00", api.Window))
	for i, c := range []struct {
		l    []deflate.Part
		want string
		e    api.Errno
	}{
		{nil, "", api.OK}, {[]deflate.Part{{}}, "\x00", api.OK}, {[]deflate.Part{a, b, {0, 5, 2}}, "abababa", api.OK}, {[]deflate.Part{a, b, {0, 3, 1}, b}, "abbbbb", api.OK},
		{[]deflate.Part{a, {0, 258, 1}}, strings.Repeat("a", 259), api.OK},
		{append(slices.Clone(window), deflate.Part{Size: 3, Far: api.Window}), strings.Repeat("\x00", api.Window+3), api.OK},
		{[]deflate.Part{a, {0, 3, 2}}, "", api.ErrFar}, {[]deflate.Part{{0, 3, 1}}, "", api.ErrFar}, {[]deflate.Part{a, {0, 258, api.Window}}, "", api.ErrFar},
		{[]deflate.Part{a, {0, 2, 1}}, "", api.ErrArg}, {[]deflate.Part{a, {0, 1, 1}}, "", api.ErrArg}, {[]deflate.Part{a, {0, 259, 1}}, "", api.ErrArg}, {[]deflate.Part{a, {0, -3, 1}}, "", api.ErrArg},
		{[]deflate.Part{a, {0, 3, 0}}, "", api.ErrArg}, {[]deflate.Part{a, {0, 3, -1}}, "", api.ErrArg}, {[]deflate.Part{a, {0, 3, api.Window + 1}}, "", api.ErrArg}, {[]deflate.Part{a, {0, 0, 1}}, "", api.ErrArg},
		{[]deflate.Part{a, {1, 3, 1}}, "", api.ErrArg}, {[]deflate.Part{a, {1, 0, 1}}, "", api.ErrArg}, {[]deflate.Part{a, {1, 3, 0}}, "", api.ErrArg}, {[]deflate.Part{a, {0, 0, -1}}, "", api.ErrArg},
		{[]deflate.Part{a, {0, 3, 2}, {0, 2, 1}}, "", api.ErrFar}, {[]deflate.Part{a, {0, 2, 2}, {0, 3, 3}}, "", api.ErrArg}, {[]deflate.Part{{0, 2, 2}}, "", api.ErrArg},
		{append(slices.Clone(full), deflate.Part{Size: 3, Far: 1}), "", api.ErrLong}, {append(slices.Clone(full), a, deflate.Part{Size: 2, Far: 1}), "", api.ErrArg}, {append(slices.Clone(full), a, a, deflate.Part{Size: 2, Far: 1}), "", api.ErrLong},
	} {
		if got, e := deflate.Unparts(c.l); got != c.want || e != c.e {
			t.Errorf("Unparts %d = %s, %d, want %s, %d", i, brief(got), e, brief(c.want), c.e)
		}
	}
	few := deflate.Parts(strings.Repeat("\x00", 100))
	if _, e := deflate.Unparts(append(few, deflate.Part{Size: 3, Far: 101})); e != api.ErrFar {
		t.Errorf("one too far: %d", e)
	}
}

// Promises 12.3 and 12.5.
func TestSign(t *testing.T) {
	bases := []int{3, 4, 5, 6, 7, 8, 9, 10, 11, 13, 15, 17, 19, 23, 27, 31, 35, 43, 51, 59, 67, 83, 99, 115, 131, 163, 195, 227, 258}
	for size := 3; size <= api.MaxCopy; size++ {
		i := len(bases) - 1
		for bases[i] > size {
			i--
		}
		extra := max(0, i/4-1)
		if i == len(bases)-1 {
			extra = 0
		}
		sign, more, bits, e := deflate.Sign(size)
		if sign != 257+i || more != size-bases[i] || bits != extra || e != api.OK {
			t.Errorf("Sign(%d) = %d, %d, %d, %d", size, sign, more, bits, e)
		}
		if n, e := inflate.Size(sign, more); n != size || e != api.OK {
			t.Errorf("Size(%d, %d) = %d, %d, want %d", sign, more, n, e, size)
		}
	}
	for _, size := range []int{2, 1, 0, -1, -3, 259, 1 << 40, -1 << 62} {
		if sign, more, bits, e := deflate.Sign(size); sign != 0 || more != 0 || bits != 0 || e != api.ErrArg {
			t.Errorf("Sign(%d) = %d, %d, %d, %d", size, sign, more, bits, e)
		}
	}
}

// Promises 12.3 and 12.5.
func TestBack(t *testing.T) {
	bases := []int{1, 2, 3, 4, 5, 7, 9, 13, 17, 25, 33, 49, 65, 97, 129, 193, 257, 385, 513, 769, 1025, 1537, 2049, 3073, 4097, 6145, 8193, 12289, 16385, 24577}
	for far := 1; far <= api.Window; far++ {
		i := len(bases) - 1
		for bases[i] > far {
			i--
		}
		sign, more, bits, e := deflate.Back(far)
		if sign != i || more != far-bases[i] || bits != max(0, i/2-1) || e != api.OK {
			t.Fatalf("Back(%d) = %d, %d, %d, %d", far, sign, more, bits, e)
		}
		if n, e := inflate.Far(sign, more); n != far || e != api.OK {
			t.Fatalf("Far(%d, %d) = %d, %d, want %d", sign, more, n, e, far)
		}
	}
	for _, far := range []int{0, -1, api.Window + 1, 1 << 40, -1 << 62} {
		if sign, more, bits, e := deflate.Back(far); sign != 0 || more != 0 || bits != 0 || e != api.ErrArg {
			t.Errorf("Back(%d) = %d, %d, %d, %d", far, sign, more, bits, e)
		}
	}
}

// blocks returns what level 0 makes of s, by the words of promise 12.1.
func blocks(s string) string {
	var b strings.Builder
	for {
		n := min(len(s), 65535)
		last := byte(0)
		if n == len(s) {
			last = 1
		}
		b.Write([]byte{last, byte(n), byte(n >> 8), ^byte(n), ^byte(n >> 8)})
		b.WriteString(s[:n])
		if s = s[n:]; s == "" {
			return b.String()
		}
	}
}

// checkAll holds what All makes of s against promise 12.1.
func checkAll(t *testing.T, s string, level int) string {
	t.Helper()
	got, e := deflate.All(s, level)
	if e != api.OK {
		t.Fatalf("All(%s, %d) = %d", brief(s), level, e)
	}
	if back, used, e := inflate.All(got, len(s)); back != s || used != len(got) || e != api.OK {
		t.Fatalf("All(%s, %d) = %s is read as %s, %d, %d", brief(s), level, brief(got), brief(back), used, e)
	}
	if back, err := io.ReadAll(flate.NewReader(bytes.NewReader([]byte(got)))); string(back) != s || err != nil {
		t.Fatalf("All(%s, %d) = %s is read by another program as %s, %v", brief(s), level, brief(got), brief(back), err)
	}
	plain := blocks(s)
	if level == 0 && got != plain {
		t.Fatalf("All(%s, 0) = %s, want %s", brief(s), brief(got), brief(plain))
	}
	if len(got) > len(plain)+16 {
		t.Fatalf("All(%s, %d) is %d bytes, and %d on level 0", brief(s), level, len(got), len(plain))
	}
	return got
}

// Promise 12.1.
func TestAll(t *testing.T) {
	for _, s := range texts() {
		for level := range 3 {
			checkAll(t, s, level)
		}
	}
	for _, n := range []int{65534, 65535, 65536, 2*65535 - 1, 2 * 65535, 2*65535 + 1} {
		checkAll(t, noise(1, n, 256), 0)
	}
	for i := range 600 {
		for level := range 3 {
			checkAll(t, noise(int64(i), i, 1+i%5), level)
			checkAll(t, noise(int64(i), i, 256), level)
		}
	}
	if s, e := deflate.All("", 0); s != "\x01\x00\x00\xff\xff" || e != api.OK {
		t.Errorf("All of nothing = %q, %d", s, e)
	}
}

// Promise 12.1: distances and sizes that only some symbols tell, and counts that would make long codes.
func TestRareSymbols(t *testing.T) {
	var steep strings.Builder
	for i := range 19 {
		steep.WriteString(strings.Repeat(string(rune('a'+i)), 1<<i))
	}
	b := []byte(steep.String())
	rand.New(rand.NewSource(1)).Shuffle(len(b), func(i, j int) { b[i], b[j] = b[j], b[i] })
	for _, s := range []string{string(b), "abcd" + strings.Repeat("-", 20000) + "abcd", noise(1, 258, 256) + noise(1, 258, 256), strings.Repeat("\x00", 258) + string(everyByte()[1:]), noise(2, 300, 256) + "!" + noise(2, 300, 256)[100:]} {
		for level := 1; level < 3; level++ {
			checkAll(t, s, level)
		}
	}
}

// Promise 12.1: the levels do what they are for.
func TestLevels(t *testing.T) {
	s := strings.Repeat("BT /F1 12 Tf 72 700 Td (Hello) Tj ET\n", 5) + noise(3, 500, 20)
	zero, one, two := checkAll(t, s, 0), checkAll(t, s, 1), checkAll(t, s, 2)
	if one[0]&7 != 3 || two[0]&7 != 5 || len(one) >= len(zero) || len(two) >= len(one) {
		t.Errorf("%d, %d and %d bytes, in blocks %d and %d", len(zero), len(one), len(two), one[0]&7, two[0]&7)
	}
	if best := checkAll(t, strings.Repeat("\x00", 70000), 2); len(best) > 100 {
		t.Errorf("70000 zeros take %d bytes", len(best))
	}
}

// Promise 12.1.
func TestAllErrors(t *testing.T) {
	for _, level := range []int{-1, 3, 1 << 40, -1 << 62} {
		if s, e := deflate.All("a", level); s != "" || e != api.ErrArg {
			t.Errorf("All on level %d = %q, %d", level, s, e)
		}
	}
}
