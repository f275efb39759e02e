package ascii_test

import (
	"encoding/ascii85"
	"fmt"
	"math/rand"
	"strings"
	"testing"

	"foliant/api"
	"foliant/ascii"
	"foliant/octet"
	"foliant/sample"
)

// brief shows the beginning of a text.
func brief(s string) string { return fmt.Sprintf("%.120q", s) }

// noise returns n bytes, each one of so many.
func noise(seed int64, n, kinds int) string {
	r := rand.New(rand.NewSource(seed))
	b := make([]byte, n)
	for i := range b {
		b[i] = byte(r.Intn(kinds))
	}
	return string(b)
}

// texts returns data of many kinds.
func texts() []string {
	list := []string{"", "a", "ab", "abc", "abcd", "abcde", sample.Bytes(), "\x00\x00\x00\x00", "\xff\xff\xff\xff", strings.Repeat("\x00", 1000), noise(1, 5000, 256), noise(2, 5000, 2), noise(3, 5000, 3)}
	for i := range 300 {
		list = append(list, noise(int64(i), i, 1+i%4), noise(int64(i), i%13, 256))
	}
	return list
}

// words returns the texts of at most so many of the given bytes.
func words(letters string, most int) []string {
	list := []string{""}
	for from := 0; most > 0; most-- {
		to := len(list)
		for _, s := range list[from:to] {
			for i := range len(letters) {
				list = append(list, s+letters[i:i+1])
			}
		}
		from = to
	}
	return list
}

// decoder is one of the three.
type decoder func(s string, most int) (string, api.Errno)

// check holds an answer of a decoder against the wanted one.
func check(t *testing.T, decode decoder, s string, most int, want string, wantErr api.Errno) {
	t.Helper()
	if got, e := decode(s, most); got != want || e != wantErr {
		t.Errorf("%s, %d is decoded as %s, %d, want %s, %d", brief(s), most, brief(got), e, brief(want), wantErr)
	}
}

// checkBack holds a decoder to promise 14.4, and to its limit.
func checkBack(t *testing.T, decode decoder, encoded, s string) {
	t.Helper()
	check(t, decode, encoded, len(s), s, api.OK)
	check(t, decode, encoded, api.MaxData, s, api.OK)
	check(t, decode, encoded+"\xfe>", len(s), s, api.OK)
	if s != "" {
		check(t, decode, encoded, len(s)-1, "", api.ErrLong)
		check(t, decode, encoded, 0, "", api.ErrLong)
	}
}

// Promises 14.1 to 14.3: the limit.
func TestMost(t *testing.T) {
	coders := []struct {
		encode func(s string) string
		decode decoder
	}{{ascii.Hex, ascii.Unhex}, {ascii.Five, ascii.Unfive}, {ascii.Run, ascii.Unrun}}
	for _, c := range coders {
		for _, s := range []string{"", "a", ">", "~>", "\x80", "?"} {
			for _, most := range []int{-1, -1 << 62} {
				check(t, c.decode, s, most, "", api.ErrArg)
			}
		}
		for _, unit := range []string{"\x00", "abcd"} {
			full := strings.Repeat(unit, api.MaxData/len(unit))
			check(t, c.decode, c.encode(full), api.MaxData, full, api.OK)
			check(t, c.decode, c.encode(full), 1<<40, full, api.OK)
			check(t, c.decode, c.encode(full+"a"), 1<<40, "", api.ErrLong)
			check(t, c.decode, c.encode(full+"a"), api.MaxData+1, "", api.ErrLong)
		}
	}
}

// Promises 14.1 and 14.4.
func TestHex(t *testing.T) {
	for s, want := range map[string]string{"": ">", "ab": "6162>", "\x00\xff\x0a": "00FF0A>"} {
		if got := ascii.Hex(s); got != want {
			t.Errorf("Hex(%q) = %q, want %q", s, got, want)
		}
	}
	for _, s := range texts() {
		got := ascii.Hex(s)
		if want := fmt.Sprintf("%X>", s); got != want {
			t.Errorf("Hex(%s) = %s, want %s", brief(s), brief(got), brief(want))
		}
		checkBack(t, ascii.Unhex, got, s)
		checkBack(t, ascii.Unhex, strings.ToLower(got), s)
	}
}

// Promise 14.1.
func TestUnhex(t *testing.T) {
	for _, c := range []struct {
		s    string
		most int
		want string
		e    api.Errno
	}{
		{"6 1 7>", 2, "ap", api.OK}, {"6 1 7>", 1, "", api.ErrLong}, {">", 0, "", api.OK}, {" \x00\t\n\f\r>", 0, "", api.OK}, {"7>", 1, "p", api.OK}, {"7>", 0, "", api.ErrLong}, {"7 >", 0, "", api.ErrLong},
		{"aF0>9", 9, "\xaf\x00", api.OK}, {"4\n1\r>zz", 1, "A", api.OK}, {"41>?", 1, "A", api.OK},
		{"", 9, "", api.ErrEnd}, {"41", 9, "", api.ErrEnd}, {"4", 9, "", api.ErrEnd}, {"4", 0, "", api.ErrEnd}, {"41 ", 9, "", api.ErrEnd}, {" ", 9, "", api.ErrEnd},
		{"41", 0, "", api.ErrLong}, {"4142", 1, "", api.ErrLong}, {"414", 1, "", api.ErrEnd}, {"414?", 1, "", api.ErrForm}, {"414>", 1, "", api.ErrLong},
		{"4g>", 9, "", api.ErrForm}, {"g>", 9, "", api.ErrForm}, {"G", 9, "", api.ErrForm}, {"4G", 9, "", api.ErrForm}, {"<41>", 9, "", api.ErrForm}, {"41~>", 9, "", api.ErrForm}, {"%\n41>", 9, "", api.ErrForm}, {"\x0b>", 9, "", api.ErrForm}, {"41\x80>", 9, "", api.ErrForm},
		{"4?", 0, "", api.ErrForm}, {"41?", 0, "", api.ErrLong},
	} {
		check(t, ascii.Unhex, c.s, c.most, c.want, c.e)
	}
}

// slowUnhex decodes by the words of promise 14.1.
func slowUnhex(s string, most int) (string, api.Errno) {
	out, first := "", -1
	for i := range len(s) {
		v := octet.Digit(s[i])
		switch {
		case octet.White(s[i]):
			continue
		case s[i] == '>' && first < 0:
			return out, api.OK
		case s[i] == '>':
			v = 0
		case v < 0:
			return "", api.ErrForm
		case first < 0:
			first = v
			continue
		}
		if len(out) == most {
			return "", api.ErrLong
		}
		out += string([]byte{byte(first<<4 | v)})
		if first = -1; s[i] == '>' {
			return out, api.OK
		}
	}
	return "", api.ErrEnd
}

// Promise 14.1: all short texts.
func TestUnhexAll(t *testing.T) {
	for _, s := range words("7bF >/", 6) {
		for most := range 4 {
			want, e := slowUnhex(s, most)
			check(t, ascii.Unhex, s, most, want, e)
		}
	}
	for _, c := range []byte(sample.Bytes()) {
		for _, s := range []string{string([]byte{c}), string([]byte{c, '>'}), string([]byte{'4', c, '>'}), string([]byte{c, '4', '>'})} {
			want, e := slowUnhex(s, 2)
			check(t, ascii.Unhex, s, 2, want, e)
		}
	}
}

// slowFive encodes by the words of another program.
func slowFive(s string) string {
	b := make([]byte, ascii85.MaxEncodedLen(len(s)))
	return string(b[:ascii85.Encode(b, []byte(s))]) + "~>"
}

// Promises 14.2 and 14.4.
func TestFive(t *testing.T) {
	for s, want := range map[string]string{
		"": "~>", "\x00\x00\x00\x00": "z~>", "a": "@/~>", "\x00": "!!~>", "\x00\x00": "!!!~>", "\x00\x00\x00": "!!!!~>", "\x00\x00\x00\x00\x00": "z!!~>", "\xff\xff\xff\xff": "s8W-!~>", "\xff": "rr~>", "\xff\xff": "s8N~>", "\xff\xff\xff": "s8W*~>", "\x00\x00\x00\x01": "!!!!\"~>",
		"a\x00\x00\x00\x00": "@/p9-!!~>", "Man ": "9jqo^~>",
	} {
		if got := ascii.Five(s); got != want {
			t.Errorf("Five(%q) = %q, want %q", s, got, want)
		}
	}
	for _, s := range texts() {
		got := ascii.Five(s)
		if want := slowFive(s); got != want {
			t.Errorf("Five(%s) = %s, want %s", brief(s), brief(got), brief(want))
		}
		checkBack(t, ascii.Unfive, got, s)
		checkBack(t, ascii.Unfive, " "+strings.Join(strings.SplitAfterN(got[:len(got)-2], "", 40), "\r\n\x00")+"\t~>", s)
	}
	for a := range 256 {
		for b := range 256 {
			for _, s := range []string{string([]byte{byte(a), byte(b)}), string([]byte{byte(a), 255, byte(b)}), string([]byte{0, byte(a), 0, byte(b)})} {
				check(t, ascii.Unfive, ascii.Five(s), len(s), s, api.OK)
			}
		}
		check(t, ascii.Unfive, ascii.Five(string([]byte{byte(a)})), 1, string([]byte{byte(a)}), api.OK)
	}
}

// Promise 14.2.
func TestUnfive(t *testing.T) {
	for _, c := range []struct {
		s    string
		most int
		want string
		e    api.Errno
	}{
		{"~>", 0, "", api.OK}, {" \x00\t\n\f\r~>", 0, "", api.OK}, {"z~>", 4, "\x00\x00\x00\x00", api.OK}, {"z~>", 3, "", api.ErrLong}, {"zz~>", 7, "", api.ErrLong}, {"zz~>", 8, "\x00\x00\x00\x00\x00\x00\x00\x00", api.OK}, {"z!!~>", 5, "\x00\x00\x00\x00\x00", api.OK},
		{"s8W-!~>", 4, "\xff\xff\xff\xff", api.OK}, {"s8W-!~>", 3, "", api.ErrLong}, {"s8W-\"~>", 9, "", api.ErrForm}, {"s8W-\"~>", 0, "", api.ErrForm}, {"uuuuu~>", 9, "", api.ErrForm}, {"s8W-u", 9, "", api.ErrForm},
		{"rr~>", 1, "\xff", api.OK}, {"s!~>", 1, "\xff", api.OK}, {"s7~>", 1, "\xff", api.OK}, {"s8~>", 1, "", api.ErrForm}, {"uu~>", 1, "", api.ErrForm}, {"uu~>", 0, "", api.ErrForm}, {"s8W~>", 9, "", api.ErrForm}, {"s8V~>", 9, "\xff\xff", api.OK}, {"s8W,~>", 9, "\xff\xff\xff", api.OK}, {"s8W-~>", 9, "", api.ErrForm},
		{"@/~>", 1, "a", api.OK}, {"@ /\n~>", 1, "a", api.OK}, {"@/~>", 0, "", api.ErrLong}, {"@0~>", 1, "a", api.OK}, {"!!~>", 1, "\x00", api.OK}, {"!!!~>", 1, "", api.ErrLong}, {"!!!~>", 2, "\x00\x00", api.OK}, {"!!!!~>", 3, "\x00\x00\x00", api.OK}, {"!!!!~>", 2, "", api.ErrLong},
		{"!~>", 9, "", api.ErrForm}, {"!~>", 0, "", api.ErrForm}, {"z!~>", 9, "", api.ErrForm}, {"!!!!!!~>", 9, "", api.ErrForm}, {"!~", 9, "", api.ErrEnd}, {"!~!", 9, "", api.ErrForm},
		{"~", 9, "", api.ErrEnd}, {"~ >", 9, "", api.ErrForm}, {"~~>", 9, "", api.ErrForm}, {"~z", 9, "", api.ErrForm}, {"@/~", 0, "", api.ErrEnd}, {"@/~ ", 0, "", api.ErrForm}, {"uu~", 9, "", api.ErrEnd},
		{"!z~>", 9, "", api.ErrForm}, {"!!!!z~>", 9, "", api.ErrForm}, {"!!!! z", 9, "", api.ErrForm}, {"!!!!!z~>", 9, "\x00\x00\x00\x00\x00\x00\x00\x00", api.OK},
		{"v~>", 9, "", api.ErrForm}, {"!!!!v", 9, "", api.ErrForm}, {">", 9, "", api.ErrEnd}, {"<~z~>", 9, "", api.ErrForm}, {"{", 9, "", api.ErrForm}, {"y", 9, "", api.ErrForm}, {"\x7f", 9, "", api.ErrForm}, {"\x80", 9, "", api.ErrForm}, {"\x0b", 9, "", api.ErrForm}, {"\x1f", 9, "", api.ErrForm},
		{"", 9, "", api.ErrEnd}, {"z", 9, "", api.ErrEnd}, {"!!!!!", 9, "", api.ErrEnd}, {"!!", 9, "", api.ErrEnd}, {"!!!!!", 3, "", api.ErrLong}, {"z", 3, "", api.ErrLong}, {"!!!!", 0, "", api.ErrEnd}, {" ", 0, "", api.ErrEnd},
	} {
		check(t, ascii.Unfive, c.s, c.most, c.want, c.e)
	}
}

// slowGroup returns the bytes of the digits of a group.
func slowGroup(digits string) (string, bool) {
	n := int64(0)
	for _, c := range digits + "uuuu"[:5-len(digits)] {
		n = 85*n + int64(c) - 33
	}
	b := []byte{byte(n / 16777216), byte(n / 65536 % 256), byte(n / 256 % 256), byte(n % 256)}
	return string(b[:len(digits)-1]), n <= 4294967295
}

// slowUnfive decodes by the words of promise 14.2.
func slowUnfive(s string, most int) (string, api.Errno) {
	out, digits := "", ""
	for i := 0; i < len(s); i++ {
		piece, ok, end := "", true, false
		switch c := s[i]; {
		case octet.White(c):
			continue
		case c == 'z' && digits == "":
			piece = "\x00\x00\x00\x00"
		case c >= 33 && c <= 117:
			if digits += string(rune(c)); len(digits) < 5 {
				continue
			}
			piece, ok = slowGroup(digits)
			digits = ""
		case c == '~' && i+1 == len(s):
			return "", api.ErrEnd
		case c == '~' && s[i+1] == '>':
			if end = true; len(digits) > 1 {
				piece, ok = slowGroup(digits)
			} else {
				ok = digits == ""
			}
		default:
			return "", api.ErrForm
		}
		if !ok {
			return "", api.ErrForm
		}
		if len(out)+len(piece) > most {
			return "", api.ErrLong
		}
		if out += piece; end {
			return out, api.OK
		}
	}
	return "", api.ErrEnd
}

// Promise 14.2: all short texts, and texts of many digits.
func TestUnfiveAll(t *testing.T) {
	for _, s := range words("!su8z ~>", 6) {
		for _, most := range []int{0, 1, 4, 9} {
			want, e := slowUnfive(s, most)
			check(t, ascii.Unfive, s, most, want, e)
		}
	}
	for i := range 20000 {
		digits := []byte(noise(int64(i), 2+i%4, 85))
		for j := range digits {
			digits[j] += 33
		}
		for _, s := range []string{string(digits) + "~>", "s8W" + string(digits[:2]) + "~>"} {
			want, e := slowUnfive(s, 5)
			check(t, ascii.Unfive, s, 5, want, e)
		}
	}
	for _, c := range []byte(sample.Bytes()) {
		for _, s := range []string{string([]byte{c}), string([]byte{c, '~', '>'}), string([]byte{'!', c, '~', '>'}), string([]byte{'~', c}), string([]byte{'!', '!', '!', '!', c, '~', '>'})} {
			want, e := slowUnfive(s, 5)
			check(t, ascii.Unfive, s, 5, want, e)
		}
	}
}
