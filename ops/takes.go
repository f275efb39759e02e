package ops

import (
	"strings"

	"foliant/api"
)

// unknown stands for the letters of an operator that there is not.
const unknown = "?"

// signatures returns the names of the operators by the letters of the operands that they require.
func signatures() map[string]string {
	return map[string]string{
		"":       "b B b* B* BT ET EMC BX EX f F f* h n q Q s S T* W W*",
		"n":      "g G i j J M w Tc TL Tr Ts Tw Tz",
		"nn":     "d0 l m Td TD",
		"nnn":    "rg RG",
		"nnnn":   "k K re v y",
		"nnnnnn": "c cm d1 Tm",
		"N":      "BMC cs CS Do gs MP ri sh",
		"Nn":     "Tf",
		"N*":     "BDC DP",
		"s":      "Tj '",
		"nns":    "\"",
		"a":      "TJ",
		"an":     "d",
		"d":      imageWord,
	}
}

// Takes returns the letters of the operands that an operator requires.
func Takes(name string) string {
	for letters, names := range signatures() {
		for n := range strings.FieldsSeq(names) {
			if n == name {
				return letters
			}
		}
	}
	return unknown
}

// matches reports whether an operand of a kind can stand for a letter.
func matches(kind int, letter byte) bool {
	switch letter {
	case 'n':
		return kind == api.KInt || kind == api.KReal
	case 's':
		return kind == api.KString
	case 'N':
		return kind == api.KName
	case 'a':
		return kind == api.KArray
	case 'd':
		return kind == api.KDict
	}
	return true
}
