package hint_test

import (
	"fmt"
	"math"
	"slices"
	"strings"
	"testing"

	"foliant/api"
	"foliant/hint"
)

// brief shows the beginning of anything.
func brief(x any) string { return fmt.Sprintf("%.300s", fmt.Sprintf("%q", fmt.Sprint(x))) }

// bytesOf returns the text of the numbers of its bytes.
func bytesOf(list ...byte) string { return string(list) }

// encodes checks the encoding of a list, and that it is read as the list.
func encodes(t *testing.T, l []api.Hint, want string) {
	t.Helper()
	was := slices.Clone(l)
	s, e := hint.Text(l)
	if s != want || e != api.OK {
		t.Errorf("Text(%s) = %q, %d, want %q", brief(l), s, e, want)
	}
	back, e := hint.Read(want)
	if !slices.Equal(back, l) || e != api.OK {
		t.Errorf("Read(%q) = %s, %d, want %s", want, brief(back), e, brief(l))
	}
	if !slices.Equal(l, was) {
		t.Errorf("Text has changed its argument")
	}
}

// refuses checks that a list has no encoding.
func refuses(t *testing.T, l []api.Hint, want api.Errno) {
	t.Helper()
	if s, e := hint.Text(l); s != "" || e != want {
		t.Errorf("Text(%s) = %q, %d, want %d", brief(l), s, e, want)
	}
}

// unread checks that a text is no encoding.
func unread(t *testing.T, s string) {
	t.Helper()
	if l, e := hint.Read(s); len(l) > 0 || e != api.ErrHint {
		t.Errorf("Read(%q) = %s, %d", s, brief(l), e)
	}
}

// Promise 32.1.
func TestNeed(t *testing.T) {
	for n, want := range map[int]int{0: 0, 1: 1, 2: 2, 3: 2, 4: 3, 7: 3, 8: 4, 255: 8, 256: 9, api.MaxNum: 13, api.MaxFile: 21, api.MaxFile - 1: 20, math.MaxInt32: 31, math.MaxInt: 63, -1: 0, -8: 0, math.MinInt: 0} {
		if got := hint.Need(n); got != want {
			t.Errorf("Need(%d) = %d, want %d", n, got, want)
		}
	}
	for n := range 5000 {
		if got := hint.Need(n); n > 0 && (n>>got != 0 || n>>(got-1) != 1) {
			t.Errorf("Need(%d) = %d", n, got)
		}
	}
}

// Promises 32.2 and 32.3, by the examples of the chapter.
func TestExamples(t *testing.T) {
	encodes(t, []api.Hint{{Objects: 3, Bytes: 100, At: 20}}, bytesOf(0, 0, 0, 1, 0, 0, 0, 3, 0, 0, 0, 100, 0, 0, 0, 20, 0, 0, 0, 0, 0, 0))
	encodes(t, []api.Hint{{Objects: 3, Bytes: 100, At: 20}, {Objects: 4, Bytes: 100, At: 22}}, bytesOf(0, 0, 0, 2, 0, 0, 0, 3, 0, 0, 0, 100, 0, 0, 0, 20, 0, 1, 0, 0, 0, 2, 64, 32))
}

// Promises 32.2 and 32.3: the least and the greatest numbers.
func TestLimits(t *testing.T) {
	most := api.Hint{Objects: api.MaxNum, Bytes: api.MaxFile, At: api.MaxFile}
	encodes(t, []api.Hint{{}}, bytesOf(0, 0, 0, 1)+strings.Repeat("\x00", 18))
	encodes(t, []api.Hint{most}, bytesOf(0, 0, 0, 1, 0, 0, 31, 255, 0, 16, 0, 0, 0, 16, 0, 0, 0, 0, 0, 0, 0, 0))
	encodes(t, []api.Hint{{}, most}, bytesOf(0, 0, 0, 2, 0, 0, 0, 0, 0, 0, 0, 0, 0, 0, 0, 0, 0, 13, 0, 21, 0, 21)+
		bytesOf(0, 7, 255, 192)+bytesOf(0, 0, 4, 0, 0, 0)+bytesOf(0, 0, 4, 0, 0, 0))
	encodes(t, []api.Hint{{Objects: 9, Bytes: 0, At: 7}, {Objects: 1, Bytes: 65536, At: 7}, {Objects: 2, Bytes: 65535, At: 8}},
		bytesOf(0, 0, 0, 3, 0, 0, 0, 1, 0, 0, 0, 0, 0, 0, 0, 7, 0, 4, 0, 17, 0, 1)+bytesOf(0x80, 0x10)+bytesOf(0, 0, 0x40, 0, 0x1f, 0xff, 0xe0)+bytesOf(0x20))

	many := make([]api.Hint, api.MaxPages)
	encodes(t, many, bytesOf(0, 0, 8, 0)+strings.Repeat("\x00", 18))
	many[api.MaxPages-1].Objects = 1
	encodes(t, many, bytesOf(0, 0, 8, 0)+strings.Repeat("\x00", 13)+"\x01"+strings.Repeat("\x00", 4+255)+"\x01")
	unread(t, bytesOf(0, 0, 8, 1)+strings.Repeat("\x00", 18))
	unread(t, bytesOf(0, 1, 0, 1)+strings.Repeat("\x00", 18))
	unread(t, bytesOf(0, 0, 0, 0)+strings.Repeat("\x00", 18))
	unread(t, strings.Repeat("\xff", 22))
	unread(t, strings.Repeat("\xff", 100000))
}

// Promise 32.2: the errors of Text, in their order.
func TestErrors(t *testing.T) {
	refuses(t, nil, api.ErrArg)
	refuses(t, []api.Hint{}, api.ErrArg)
	refuses(t, make([]api.Hint, api.MaxPages+1), api.ErrMany)
	refuses(t, slices.Repeat([]api.Hint{{Objects: -1}}, api.MaxPages+1), api.ErrMany)
	for _, h := range []api.Hint{{Objects: -1}, {Bytes: -1}, {At: -1}, {Objects: api.MaxNum + 1}, {Bytes: api.MaxFile + 1}, {At: api.MaxFile + 1}, {Objects: math.MinInt}, {Bytes: math.MaxInt}, {At: math.MinInt}} {
		refuses(t, []api.Hint{h}, api.ErrRange)
		refuses(t, []api.Hint{{Objects: 1, Bytes: 2, At: 3}, h, {}}, api.ErrRange)
		refuses(t, append(make([]api.Hint, api.MaxPages-1), h), api.ErrRange)
	}
}

// Promise 32.2: texts that are nearly encodings.
func TestUnread(t *testing.T) {
	good := "\x00\x00\x00\x02\x00\x00\x00\x03\x00\x00\x00\x64\x00\x00\x00\x14\x00\x01\x00\x00\x00\x02\x40\x20"
	if l, e := hint.Read(good); len(l) != 2 || e != api.OK {
		t.Fatalf("Read = %v, %d", l, e)
	}
	for n := range good {
		unread(t, good[:n])
	}
	unread(t, good+"\x00")
	with := func(at int, list ...byte) string {
		return good[:at] + string(list) + good[min(at+len(list), len(good)):]
	}
	unread(t, with(22, 0x40, 0x21))
	unread(t, with(22, 0x60, 0x20))
	unread(t, with(22, 0xc0, 0x20))
	unread(t, with(22, 0x00, 0x20))
	unread(t, with(22, 0x40, 0x10))
	unread(t, with(22, 0x40, 0x60))
	unread(t, with(16, 0, 2, 0, 0, 0, 2, 0x10, 0x20))
	unread(t, with(16, 0, 1, 0, 1, 0, 2, 0x40, 0x00)+"\x20")
	unread(t, with(16, 0, 1, 0, 0, 0, 25, 0x40, 0, 0, 0, 0, 0, 0, 1))
	unread(t, with(4, 0, 0, 31, 255))
	unread(t, with(4, 0xff, 0xff, 0xff, 0xff))
	unread(t, with(8, 0, 16, 0, 1))
	unread(t, with(8, 1, 0, 0, 0))
	unread(t, with(12, 0, 15, 255, 255))
}

// Aliasing: what is read is memory of its own.
func TestMemory(t *testing.T) {
	s, _ := hint.Text([]api.Hint{{Objects: 1}, {Objects: 2}})
	a, _ := hint.Read(s)
	a[0].Objects = 9
	if b, _ := hint.Read(s); b[0].Objects != 1 {
		t.Error("two answers share memory")
	}
}
