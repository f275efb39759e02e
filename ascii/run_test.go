package ascii_test

import (
	"strings"
	"testing"

	"foliant/api"
	"foliant/ascii"
	"foliant/sample"
)

// same reports whether so many equal bytes stand at the beginning of s.
func same(s string, n int) bool { return len(s) >= n && strings.Count(s[:n], s[:1]) == n }

// slowRun encodes by the words of promise 14.3.
func slowRun(s string) string {
	out := ""
	for s != "" {
		n := 0
		if same(s, 3) {
			for n < 128 && same(s, n+1) {
				n++
			}
			out += string([]byte{byte(257 - n), s[0]})
		} else {
			for n < 128 && n < len(s) && !same(s[n:], 3) {
				n++
			}
			out += string([]byte{byte(n - 1)}) + s[:n]
		}
		s = s[n:]
	}
	return out + "\x80"
}

// checkRun holds what Run makes of s to promises 14.3 and 14.4.
func checkRun(t *testing.T, s string) {
	t.Helper()
	got := ascii.Run(s)
	if want := slowRun(s); got != want {
		t.Errorf("Run(%s) = %s, want %s", brief(s), brief(got), brief(want))
	}
	if most := len(s) + (len(s)+127)/128 + 1; len(got) > most {
		t.Errorf("Run(%s) has %d bytes, want at most %d", brief(s), len(got), most)
	}
	checkBack(t, ascii.Unrun, got, s)
}

// Promise 14.3: the examples, and the edges.
func TestRunExamples(t *testing.T) {
	distinct := sample.Bytes()
	a := func(n int) string { return strings.Repeat("a", n) }
	for s, want := range map[string]string{
		"": "\x80", "a": "\x00a\x80", "aa": "\x01aa\x80", "aaa": "\xfea\x80", "aaab": "\xfea\x00b\x80", "aab": "\x02aab\x80", "aabbb": "\x01aa\xfeb\x80", "abbbc": "\x00a\xfeb\x00c\x80", "aabbccc": "\x03aabb\xfec\x80", "aabb": "\x03aabb\x80",
		a(127): "\x82a\x80", a(128): "\x81a\x80", a(129): "\x81a\x00a\x80", a(130): "\x81a\x01aa\x80", a(131): "\x81a\xfea\x80", a(256): "\x81a\x81a\x80", a(130) + "bc": "\x81a\x03aabc\x80",
		distinct[:127]: "\x7e" + distinct[:127] + "\x80", distinct[:128]: "\x7f" + distinct[:128] + "\x80", distinct[:129]: "\x7f" + distinct[:128] + "\x00\x80\x80", distinct: "\x7f" + distinct[:128] + "\x7f" + distinct[128:] + "\x80",
		distinct[:127] + "aaa": "\x7e" + distinct[:127] + "\xfea\x80", distinct[:128] + "aaa": "\x7f" + distinct[:128] + "\xfea\x80", distinct[:126] + "aabb": "\x7f" + distinct[:126] + "aa\x01bb\x80",
		distinct[:97] + "aaaaa": "\x60" + distinct[:97] + "\xfca\x80", distinct[1:128] + "\x00\x00" + distinct[1:3]: "\x7f" + distinct[1:128] + "\x00\x02\x00\x01\x02\x80",
	} {
		if got := ascii.Run(s); got != want {
			t.Errorf("Run(%s) = %s, want %s", brief(s), brief(got), brief(want))
		}
		checkRun(t, s)
	}
}

// Promises 14.3 and 14.4.
func TestRun(t *testing.T) {
	for _, s := range texts() {
		checkRun(t, s)
	}
	for _, s := range words("ab", 11) {
		checkRun(t, s)
	}
	for _, s := range words("abc", 7) {
		checkRun(t, s)
	}
	for n := range 400 {
		checkRun(t, strings.Repeat("r", n))
		checkRun(t, strings.Repeat("rs", n))
		checkRun(t, strings.Repeat("rrs", n)+"rrr")
		checkRun(t, "?"+strings.Repeat("r", n)+"!!")
		checkRun(t, strings.Repeat("rs", n%130)+"ttt")
		checkRun(t, noise(int64(n), n, 256)+"tttt"+noise(int64(n), n, 2))
	}
}

// Promise 14.3.
func TestUnrun(t *testing.T) {
	literal := sample.Bytes()[:128]
	for _, c := range []struct {
		s    string
		most int
		want string
		e    api.Errno
	}{
		{"\x80", 0, "", api.OK}, {"\x80\x00", 0, "", api.OK}, {"\x00a\x80", 1, "a", api.OK}, {"\xffa\x80", 2, "aa", api.OK}, {"\x81a\x80", 128, strings.Repeat("a", 128), api.OK}, {"\x7f" + literal + "\x80", 128, literal, api.OK}, {"\x01ab\xfec\x00d\x80\x80", 6, "abcccd", api.OK}, {"\x00\x80\xff\x80\x80", 3, "\x80\x80\x80", api.OK},
		{"", 9, "", api.ErrEnd}, {"\x00", 9, "", api.ErrEnd}, {"\x00a", 9, "", api.ErrEnd}, {"\x01a", 9, "", api.ErrEnd}, {"\x01a\x80", 9, "", api.ErrEnd}, {"\xff", 9, "", api.ErrEnd}, {"\xffa", 9, "", api.ErrEnd}, {"\x7f" + literal[1:], 200, "", api.ErrEnd}, {"\x7f" + literal, 200, "", api.ErrEnd},
		{"\x00", 0, "", api.ErrEnd}, {"\x01a", 0, "", api.ErrEnd}, {"\xff", 0, "", api.ErrEnd}, {"\x00a", 0, "", api.ErrLong}, {"\x00a\x80", 0, "", api.ErrLong}, {"\xffa", 1, "", api.ErrLong}, {"\xffa\x80", 1, "", api.ErrLong}, {"\x81a\x80", 127, "", api.ErrLong}, {"\x7f" + literal + "\x80", 127, "", api.ErrLong},
		{"\x00a\x00", 1, "", api.ErrEnd}, {"\x00a\x00b", 1, "", api.ErrLong}, {"\x01ab\x80", 1, "", api.ErrLong}, {"\x00a\xff\x80", 1, "", api.ErrLong}, {"\x00a\xff", 1, "", api.ErrEnd},
	} {
		check(t, ascii.Unrun, c.s, c.most, c.want, c.e)
	}
	for c := range 256 {
		s, want := string([]byte{byte(c)})+literal+literal, ""
		switch {
		case c < 128:
			want = literal[:c+1]
			s = s[:c+2]
		case c > 128:
			s = s[:2]
			want = strings.Repeat("\x00", 257-c)
		default:
			s = ""
		}
		check(t, ascii.Unrun, s+"\x80", len(want), want, api.OK)
		if want != "" {
			check(t, ascii.Unrun, s+"\x80", len(want)-1, "", api.ErrLong)
			check(t, ascii.Unrun, s[:len(s)-1], 0, "", api.ErrEnd)
		}
	}
}
