package font

import (
	"strings"
	"unicode/utf8"

	"foliant/api"
	"foliant/octet"
)

// The standard names, and the codes of the first one and the last one.
const (
	standardNames = "space exclam quotedbl numbersign dollar percent ampersand quotesingle parenleft parenright asterisk plus comma hyphen period slash " +
		"zero one two three four five six seven eight nine colon semicolon less equal greater question at " +
		"A B C D E F G H I J K L M N O P Q R S T U V W X Y Z bracketleft backslash bracketright asciicircum underscore grave " +
		"a b c d e f g h i j k l m n o p q r s t u v w x y z braceleft bar braceright asciitilde"
	standardFirst = 32
	standardLast  = 126
)

// uniPrefix begins a name that tells a code point in so many hexadecimal digits.
const (
	uniPrefix = "uni"
	uniDigits = 4
)

// Usual returns the names of the codes of a font that tells none.
func Usual() []string {
	list := make([]string, codes)
	copy(list[standardFirst:], strings.Fields(standardNames))
	return list
}

// usualText returns the text that the usual name of a code has: the byte of the code, if it has a name.
func usualText(code int) string {
	if code < standardFirst || code > standardLast {
		return ""
	}
	return string(rune(code))
}

// Sign returns the text of a glyph name.
func Sign(name string) string {
	code := standardFirst
	for standard := range strings.FieldsSeq(standardNames) {
		if name == standard {
			return usualText(code)
		}
		code++
	}
	return uniText(name)
}

// uniText returns the character whose code point a name tells.
func uniText(name string) string {
	digits, ok := strings.CutPrefix(name, uniPrefix)
	if !ok || len(digits) != uniDigits || digits != strings.ToUpper(digits) {
		return ""
	}
	s, e := octet.Unhex(digits)
	if e != api.OK {
		return ""
	}
	r := rune(s[0])<<8 | rune(s[1])
	if r == 0 || !utf8.ValidRune(r) {
		return ""
	}
	return string(r)
}
