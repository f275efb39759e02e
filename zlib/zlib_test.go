package zlib_test

import (
	"bytes"
	stdzlib "compress/zlib"
	"encoding/binary"
	"fmt"
	"hash/adler32"
	"io"
	"math/rand"
	"strings"
	"testing"

	"foliant/api"
	"foliant/deflate"
	"foliant/inflate"
	"foliant/sample"
	"foliant/zlib"
)

// brief shows the beginning of a text.
func brief(s string) string { return fmt.Sprintf("%.120q", s) }

// noise returns n bytes, each one of so many.
func noise(seed int64, n, kinds int) string {
	r := rand.New(rand.NewSource(seed))
	b := make([]byte, n)
	for i := range b {
		b[i] = byte(r.Intn(kinds))
	}
	return string(b)
}

// texts returns data of many kinds.
func texts() []string {
	return []string{"", "a", "ab", "Wikipedia", "\x00", strings.Repeat("\x00", 70000), strings.Repeat("\xff", 70000), sample.Bytes(), noise(1, 1000, 256), noise(2, 66000, 3), noise(3, 66000, 256), strings.Repeat("0 0 m 10 20 l S\n", 300)}
}

// tail returns a checksum as four bytes, the most significant one first.
func tail(sum uint32) string { return string(binary.BigEndian.AppendUint32(nil, sum)) }

// Promise 13.1.
func TestSum(t *testing.T) {
	for s, want := range map[string]uint32{"": 1, "Wikipedia": 0x11E60398, "\x00": 0x00010001, "a": 0x00620062, "\xff\xff": 0x02FF01FF} {
		if got := zlib.Sum(s); got != want {
			t.Errorf("Sum(%q) = %08X, want %08X", s, got, want)
		}
	}
	for _, s := range texts() {
		if got, want := zlib.Sum(s), adler32.Checksum([]byte(s)); got != want {
			t.Errorf("Sum(%s) = %08X, want %08X", brief(s), got, want)
		}
	}
	for n := range 700 {
		s := strings.Repeat("\xff", n)
		if got, want := zlib.Sum(s), adler32.Checksum([]byte(s)); got != want {
			t.Errorf("Sum of %d bytes 255 = %08X, want %08X", n, got, want)
		}
	}
}

// Promise 13.1: sums that are none, and whose numbers are reduced.
func TestMore(t *testing.T) {
	for _, c := range []struct {
		sum  uint32
		s    string
		want uint32
	}{
		{0, "", 0}, {1, "", 1}, {0x12345678, "", 0x12345678}, {65520<<16 + 65520, "", 65520<<16 + 65520},
		{65521, "", 0}, {65521 << 16, "", 0}, {0xFFFFFFFF, "", 14<<16 + 14}, {65522<<16 + 65523, "", 1<<16 + 2}, {0xFFF0FFF1, "", 0xFFF00000},
		{0, "\x00", 0}, {0, "\x01", 1<<16 + 1}, {0xFFFFFFFF, "\x03", 31<<16 + 17}, {65520, "\x01", 0}, {65520, "\x02", 1<<16 + 1}, {65520<<16 + 65520, "\x00", 65519<<16 + 65520}, {65520<<16 + 1, "\x00", 1},
	} {
		if got := zlib.More(c.sum, c.s); got != c.want {
			t.Errorf("More(%08X, %q) = %08X, want %08X", c.sum, c.s, got, c.want)
		}
	}
	r := rand.New(rand.NewSource(1))
	for i := range 1000 {
		sum, s := r.Uint32(), noise(int64(i), i%40, 256)
		a, b := uint64(sum%65536), uint64(sum/65536)
		for j := range len(s) {
			a += uint64(s[j])
			b += a
		}
		if got, want := zlib.More(sum, s), uint32(b%65521*65536+a%65521); got != want {
			t.Errorf("More(%08X, %q) = %08X, want %08X", sum, s, got, want)
		}
	}
}

// Promise 13.3.
func TestPieces(t *testing.T) {
	s := noise(4, 400, 256)
	for i := range len(s) + 1 {
		if got, want := zlib.More(zlib.Sum(s[:i]), s[i:]), zlib.Sum(s); got != want {
			t.Errorf("the sum in pieces at %d = %08X, want %08X", i, got, want)
		}
	}
	for _, s := range texts() {
		sum := zlib.Sum("")
		for i := 0; i < len(s); i += 97 {
			sum = zlib.More(sum, s[i:min(i+97, len(s))])
		}
		if sum != zlib.Sum(s) {
			t.Errorf("the sum of %s in pieces = %08X, want %08X", brief(s), sum, zlib.Sum(s))
		}
	}
}

// Promises 13.2 and 13.3.
func TestWrap(t *testing.T) {
	for _, s := range texts() {
		for level := range 3 {
			small, _ := deflate.All(s, level)
			want := "\x78\x9c" + small + tail(adler32.Checksum([]byte(s)))
			got, e := zlib.Wrap(s, level)
			if got != want || e != api.OK {
				t.Fatalf("Wrap(%s, %d) = %s, %d, want %s", brief(s), level, brief(got), e, brief(want))
			}
			if back, e := zlib.Unwrap(got, len(s)); back != s || e != api.OK {
				t.Fatalf("Unwrap(%s) = %s, %d, want %s", brief(got), brief(back), e, brief(s))
			}
			other, err := stdzlib.NewReader(strings.NewReader(got))
			if err != nil {
				t.Fatal(err)
			}
			if back, err := io.ReadAll(other); string(back) != s || err != nil {
				t.Fatalf("another program reads Wrap(%s, %d) as %s, %v", brief(s), level, brief(string(back)), err)
			}
		}
	}
	if got, _ := zlib.Wrap("", 0); got != "\x78\x9c\x01\x00\x00\xff\xff\x00\x00\x00\x01" {
		t.Errorf("Wrap of nothing = %q", got)
	}
}

// Promise 13.2.
func TestWrapErrors(t *testing.T) {
	most := strings.Repeat("m", api.MaxData)
	for _, c := range []struct {
		s     string
		level int
		e     api.Errno
	}{{"a", -1, api.ErrArg}, {"a", 3, api.ErrArg}, {most + "m", 0, api.ErrLong}, {most + "m", 1, api.ErrLong}, {most + "m", 2, api.ErrLong}, {most + "m", 3, api.ErrArg}, {most, 3, api.ErrArg}} {
		if got, e := zlib.Wrap(c.s, c.level); got != "" || e != c.e {
			t.Errorf("Wrap(%s, %d) = %s, %d, want %d", brief(c.s), c.level, brief(got), e, c.e)
		}
	}
	for level := range 3 {
		got, e := zlib.Wrap(most, level)
		if back, e2 := zlib.Unwrap(got, api.MaxData+1); back != most || e != api.OK || e2 != api.OK {
			t.Errorf("Wrap and Unwrap of as many bytes as may be = %s, %d, %d", brief(back), e, e2)
		}
	}
}

// checkUnwrap holds an answer of Unwrap against the wanted one.
func checkUnwrap(t *testing.T, s string, most int, want string, wantErr api.Errno) {
	t.Helper()
	if got, e := zlib.Unwrap(s, most); got != want || e != wantErr {
		t.Errorf("Unwrap(%s, %d) = %s, %d, want %s, %d", brief(s), most, brief(got), e, brief(want), wantErr)
	}
}

// Promise 13.2: what another program wraps.
func TestUnwrapOthers(t *testing.T) {
	for _, s := range texts() {
		for level := stdzlib.HuffmanOnly; level <= stdzlib.BestCompression; level++ {
			var b bytes.Buffer
			w, err := stdzlib.NewWriterLevel(&b, level)
			if err != nil {
				t.Fatal(err)
			}
			w.Write([]byte(s))
			w.Close()
			checkUnwrap(t, b.String(), len(s), s, api.OK)
			checkUnwrap(t, b.String()+"\x00more", api.MaxData, s, api.OK)
			checkUnwrap(t, b.String()[:b.Len()-1], api.MaxData, "", api.ErrEnd)
		}
	}
}

// Promise 13.2: each header there is.
func TestHeaders(t *testing.T) {
	rest := "\x4b\x04\x00" + tail(adler32.Checksum([]byte("a")))
	good := 0
	for first := range 256 {
		for second := range 256 {
			ok := first&15 == 8 && first>>4 <= 7 && (first<<8|second)%31 == 0 && second&0x20 == 0
			if ok {
				good++
				checkUnwrap(t, string([]byte{byte(first), byte(second)})+rest, 9, "a", api.OK)
			} else {
				checkUnwrap(t, string([]byte{byte(first), byte(second)})+rest, 9, "", api.ErrForm)
			}
		}
	}
	if good != 32 {
		t.Errorf("%d headers are good", good)
	}
}

// Promise 13.2: the errors, and which comes first.
func TestUnwrapErrors(t *testing.T) {
	head, one, sum := "\x78\x9c", "\x4b\x04\x00", tail(adler32.Checksum([]byte("a")))
	checkUnwrap(t, head+one+sum, 1, "a", api.OK)
	checkUnwrap(t, head+one+sum+head, 1, "a", api.OK)
	checkUnwrap(t, head+"\x01\x00\x00\xff\xff\x00\x00\x00\x01", 0, "", api.OK)
	for _, c := range []struct {
		s    string
		most int
		e    api.Errno
	}{
		{"", 1, api.ErrEnd}, {"\x78", 1, api.ErrEnd}, {"\x00", 1, api.ErrEnd}, {"\x78", -1, api.ErrEnd},
		{"\x00\x00", 1, api.ErrForm}, {"\x78\x9d", 1, api.ErrForm}, {"\x79\x9c" + one + sum, 1, api.ErrForm}, {"\x88\x98" + one + sum, 1, api.ErrForm}, {"\x78\xbb" + one + sum, 1, api.ErrForm},
		{"\x78\x9d", -1, api.ErrForm}, {"\x78\xbb" + one + "\x00\x00\x00\x00", 1, api.ErrForm},
		{head + one + sum, -1, api.ErrArg}, {head, -1, api.ErrArg}, {head, 1, api.ErrEnd}, {head + one[:1], 1, api.ErrEnd},
		{head + one + sum, 0, api.ErrLong}, {head + one, 0, api.ErrLong}, {head + "\x07", 1, api.ErrForm}, {head + "\x03\x02", 1, api.ErrFar},
		{head + "\x01\x02\x00\xfd\xfeab", 9, api.ErrForm}, {head + "\x05\x00", 9, api.ErrEnd},
		{head + one, 1, api.ErrEnd}, {head + one + sum[:1], 1, api.ErrEnd}, {head + one + sum[:2], 1, api.ErrEnd}, {head + one + sum[:3], 1, api.ErrEnd}, {head + one + "\x00\x00\x00", 1, api.ErrEnd},
		{head + one + "\x00\x00\x00\x00", 1, api.ErrSum}, {head + one + "\x00" + sum, 1, api.ErrSum}, {head + one + "\x62\x00\x62\x00", 1, api.ErrSum},
	} {
		if strings.HasPrefix(c.s, head) {
			if _, _, e := inflate.All(c.s[2:], c.most); e != api.OK && e != c.e {
				t.Errorf("%s should be refused with %d", brief(c.s), e)
			}
		}
		checkUnwrap(t, c.s, c.most, "", c.e)
	}
}

// Promise 13.2: each bit of the checksum, and of the data, counts.
func TestSpoiled(t *testing.T) {
	s := "spoiled " + sample.Bytes()
	good, _ := zlib.Wrap(s, 0)
	for i := 7; i < len(good); i++ {
		for bit := range 8 {
			b := []byte(good)
			b[i] ^= 1 << bit
			checkUnwrap(t, string(b), len(s), "", api.ErrSum)
		}
	}
	for i := range len(good) {
		checkUnwrap(t, good[:i], len(s), "", api.ErrEnd)
	}
	checkUnwrap(t, good, len(s)-1, "", api.ErrLong)
}
