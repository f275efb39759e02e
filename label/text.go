package label

import (
	"strconv"
	"strings"

	"foliant/api"
)

// maxRoman is the greatest number that has a Roman numeral.
const maxRoman = 3999

// letters is how many letters there are.
const letters = 26

// sign is what stands for a number in a Roman numeral.
type sign struct {
	text  string
	worth int
}

// signs has the signs of Roman numerals, the greatest first.
var signs = [...]sign{{"M", 1000}, {"CM", 900}, {"D", 500}, {"CD", 400}, {"C", 100}, {"XC", 90}, {"L", 50}, {"XL", 40}, {"X", 10}, {"IX", 9}, {"V", 5}, {"IV", 4}, {"I", 1}}

// Text returns the label of a page.
func Text(l []api.Label, page int) string {
	if page < 0 || page > api.MaxInt || Check(l) != api.OK {
		return ""
	}
	x := api.Label{Style: "D", First: 1}
	for _, next := range l {
		if next.From <= page {
			x = next
		}
	}
	return x.Prefix + styled(x.Style, x.First+page-x.From)
}

// styled returns a number in a style.
func styled(style string, n int) string {
	text := ""
	switch style {
	case "":
		return ""
	case "R", "r":
		text = Roman(n)
	case "A", "a":
		text = Letters(n)
	}
	if text == "" {
		return strconv.Itoa(n)
	}
	if style == "r" || style == "a" {
		return strings.ToLower(text)
	}
	return text
}

// Roman returns n as a Roman numeral, or "" if it has none.
func Roman(n int) string {
	if n < 1 || n > maxRoman {
		return ""
	}
	text := ""
	for _, s := range signs {
		for n >= s.worth {
			text += s.text
			n -= s.worth
		}
	}
	return text
}

// Letters returns n as a letter, said once for the first 26 numbers, twice for the next ones and so on, or "" if n has none.
func Letters(n int) string {
	if n < 1 || n > letters*letters {
		return ""
	}
	return strings.Repeat(string(rune('A'+(n-1)%letters)), (n-1)/letters+1)
}
