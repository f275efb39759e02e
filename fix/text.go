package fix

import (
	"strconv"
	"strings"

	"foliant/api"
)

// maxText is the greatest length of a number that Read accepts.
const maxText = 40

// Read parses a decimal number and rounds it to units.
func Read(s string) (int64, api.Errno) {
	negative := strings.HasPrefix(s, "-")
	body := s
	if negative || strings.HasPrefix(s, "+") {
		body = s[1:]
	}
	before, after, _ := strings.Cut(body, ".")
	if len(s) > maxText || before+after == "" || !decimal(before) || !decimal(after) {
		return 0, api.ErrForm
	}
	after += "0000"
	return attempt(func() int64 {
		n := count(before + after[:4])
		if up(after[4:], negative) {
			n++
		}
		if negative {
			n = -n
		}
		return sized(n)
	})
}

// decimal reports whether s has only decimal digits.
func decimal(s string) bool {
	for i := range len(s) {
		if s[i] < '0' || s[i] > '9' {
			return false
		}
	}
	return true
}

// count returns the number with the given digits, and gives up as soon as it is out of range.
func count(digits string) int64 {
	n := int64(0)
	for i := range len(digits) {
		n = sized(10*n + int64(digits[i]-'0'))
	}
	return n
}

// up reports whether the decimals that follow the last unit round the magnitude up. Halves go up, which for a negative number means towards zero.
func up(decimals string, negative bool) bool {
	if negative {
		return strings.TrimRight(decimals, "0") > "5"
	}
	return decimals >= "5"
}

// Text formats n units.
func Text(n int64) string {
	if n < -api.MaxFix || n > api.MaxFix {
		return ""
	}
	sign := ""
	if n < 0 {
		sign, n = "-", -n
	}
	// The added One keeps the leading zeros of the decimals.
	decimals := strings.TrimRight(strconv.FormatInt(api.One+n%api.One, 10)[1:], "0")
	if decimals == "" {
		decimals = "0"
	}
	return sign + strconv.FormatInt(n/api.One, 10) + "." + decimals
}
