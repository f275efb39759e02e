package fix_test

import (
	"math"
	"math/big"
	"strconv"
	"strings"
	"testing"

	"foliant/api"
	"foliant/fix"
)

// Promise 2.1.
func TestReadForms(t *testing.T) {
	for _, c := range []struct {
		s    string
		want int64
		err  api.Errno
	}{
		{"3", 30000, api.OK},
		{"+3", 30000, api.OK},
		{"-3.5", -35000, api.OK},
		{"-.25", -2500, api.OK},
		{"5.", 50000, api.OK},
		{"+5.", 50000, api.OK},
		{"007.10", 71000, api.OK},
		{"-0", 0, api.OK},
		{"-0.0", 0, api.OK},
		{"0.00005", 1, api.OK},
		{"0.00004999", 0, api.OK},
		{"-0.00005", 0, api.OK},
		{"-0.000050", 0, api.OK},
		{"-0.0000500001", -1, api.OK},
		{"-0.00006", -1, api.OK},
		{"0.00015", 2, api.OK},
		{"-0.00015", -1, api.OK},
		{"107374.1824", api.MaxFix, api.OK},
		{"-107374.1824", -api.MaxFix, api.OK},
		{"107374.18244999", api.MaxFix, api.OK},
		{"107374.18245", 0, api.ErrRange},
		{"-107374.18245", -api.MaxFix, api.OK},
		{"-107374.182451", 0, api.ErrRange},
		{"107374.1825", 0, api.ErrRange},
		{"107375", 0, api.ErrRange},
		{"-107375", 0, api.ErrRange},
		{strings.Repeat("9", 40), 0, api.ErrRange},
		{"-" + strings.Repeat("9", 39), 0, api.ErrRange},
		{"18446744073709551616", 0, api.ErrRange},
		{strings.Repeat("0", 39) + "1", 10000, api.OK},
		{"1." + strings.Repeat("0", 38), 10000, api.OK},
		{strings.Repeat("0", 41), 0, api.ErrForm},
		{strings.Repeat("9", 41), 0, api.ErrForm},
		{"+" + strings.Repeat("1", 40), 0, api.ErrForm},
	} {
		if got, e := fix.Read(c.s); got != c.want || e != c.err {
			t.Errorf("Read(%q) = %d, %d, want %d, %d", c.s, got, e, c.want, c.err)
		}
	}
}

// Promise 2.1.
func TestReadWrong(t *testing.T) {
	for _, s := range []string{"", ".", "+", "-", "+.", "-.", "1e3", "--1", "+-1", "1-", "1+", "1.2.3", "..1", "1..", " 1", "1 ", "1 .0", "1,0", "0x1", "a", "1a", "a1", ".a", "1.a", "1.-1", "/", ":", "1:", "1.0/", "\x00", "1\x00", "１"} {
		if got, e := fix.Read(s); got != 0 || e != api.ErrForm {
			t.Errorf("Read(%q) = %d, %d, want ErrForm", s, got, e)
		}
	}
}

// Promise 2.1: the rounding, held against numbers of any size.
func TestReadRounds(t *testing.T) {
	for _, whole := range []string{"", "0", "7", "107374"} {
		for d := range 2000 {
			for _, sign := range []string{"", "-", "+"} {
				for _, lead := range []string{"", "000", "182"} {
					checkRounding(t, sign+whole+"."+lead+strconv.Itoa(d))
				}
			}
		}
	}
}

func checkRounding(t *testing.T, s string) {
	t.Helper()
	exact, ok := new(big.Rat).SetString(strings.TrimPrefix(s, "+"))
	if !ok {
		t.Fatalf("no number: %q", s)
	}
	exact.Mul(exact, big.NewRat(api.One, 1))
	want, wantErr := bounded(nearest(exact.Num(), exact.Denom()))
	if got, e := fix.Read(s); got != want || e != wantErr {
		t.Fatalf("Read(%q) = %d, %d, want %d, %d", s, got, e, want, wantErr)
	}
}

// Promise 2.1.
func TestText(t *testing.T) {
	for _, c := range []struct {
		n    int64
		want string
	}{
		{0, "0.0"}, {1, "0.0001"}, {-1, "-0.0001"}, {10, "0.001"}, {100, "0.01"}, {1000, "0.1"}, {10000, "1.0"}, {30000, "3.0"}, {-2500, "-0.25"},
		{10101, "1.0101"}, {120340, "12.034"}, {9999, "0.9999"}, {-10000, "-1.0"}, {1000000, "100.0"},
		{api.MaxFix, "107374.1824"}, {-api.MaxFix, "-107374.1824"},
		{api.MaxFix + 1, ""}, {-api.MaxFix - 1, ""}, {math.MaxInt64, ""}, {math.MinInt64, ""},
	} {
		if got := fix.Text(c.n); got != c.want {
			t.Errorf("Text(%d) = %q, want %q", c.n, got, c.want)
		}
	}
}

// Promise 2.5.
func TestReadInvertsText(t *testing.T) {
	check := func(n int64) {
		s := fix.Text(n)
		if got, e := fix.Read(s); got != n || e != api.OK {
			t.Fatalf("Read(%q) = %d, %d, want %d", s, got, e, n)
		}
		if _, decimals, _ := strings.Cut(s, "."); len(decimals) > 1 && strings.HasSuffix(decimals, "0") {
			t.Fatalf("Text(%d) = %q is not the shortest", n, s)
		}
	}
	for n := int64(0); n <= api.MaxFix; n += 7919 {
		check(n)
		check(-n)
	}
	for n := range int64(30001) {
		check(n)
		check(-n)
		check(api.MaxFix - n)
		check(n - api.MaxFix)
	}
}
