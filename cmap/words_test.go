package cmap_test

import (
	"fmt"
	"slices"
	"strings"
	"testing"
	"unicode/utf16"

	"foliant/api"
	"foliant/cmap"
	"foliant/lex"
)

// decoded does what Utf does.
func decoded(s string) (string, bool) {
	if len(s)%2 != 0 {
		return "", false
	}
	var list []uint16
	for i := 0; i < len(s); i += 2 {
		list = append(list, uint16(s[i])<<8|uint16(s[i+1]))
	}
	text := string(utf16.Decode(list))
	return text, slices.Equal(utf16.Encode([]rune(text)), list)
}

// model does what Read does, by the words of the chapter: it takes one token after the other.
type model struct {
	// section is the word that ends the section, or "" outside of one.
	section string
	// row has the strings of the row so far, of which those of a list follow the mark [.
	row []string
	// size is that of the first code.
	size   int
	mapped []api.Map
}

// code returns a code and whether it is one.
func (x *model) code(s string) (int, bool) {
	if x.size == 0 {
		x.size = len(s)
	}
	if len(s) != 1 && len(s) != 2 || len(s) != x.size {
		return 0, false
	}
	n := 0
	for _, c := range []byte(s) {
		n = n*256 + int(c)
	}
	return n, true
}

// enter maps a code.
func (x *model) enter(code int, s string) api.Errno {
	x.mapped = append(x.mapped, api.Map{Code: code, S: s})
	if len(x.mapped) > 4096 {
		return api.ErrMany
	}
	return api.OK
}

// take takes a token.
func (x *model) take(t api.Token) api.Errno {
	ends := map[string]string{"begincodespacerange": "endcodespacerange", "beginbfchar": "endbfchar", "beginbfrange": "endbfrange"}
	switch {
	case x.section == "" && t.Kind == api.TWord:
		x.section = ends[t.S]
	case x.section == "":
	case t.Kind == api.TEnd:
		return api.ErrEnd
	case len(x.row) == 0 && t.Kind == api.TWord && t.S == x.section:
		x.section = ""
	case len(x.row) == 2 && x.section == "endbfrange" && t.Kind == api.TMark && t.S == "[":
		x.row = append(x.row, "[")
	case len(x.row) > 2 && t.Kind == api.TMark && t.S == "]":
		return x.each()
	case t.Kind != api.TString:
		return api.ErrForm
	default:
		return x.text(t.S)
	}
	return api.OK
}

// text takes a string.
func (x *model) text(s string) api.Errno {
	isCode := len(x.row) == 0 || len(x.row) == 1 && x.section != "endbfchar"
	decoded, ok := decoded(s)
	if isCode {
		_, ok = x.code(s)
	}
	if !ok {
		return api.ErrForm
	}
	x.row = append(x.row, s)
	first, _ := x.code(x.row[0])
	switch {
	case len(x.row) == 2 && isCode:
		if last, _ := x.code(s); last < first {
			return api.ErrForm
		}
		if x.section == "endcodespacerange" {
			x.row = nil
		}
	case len(x.row) == 2:
		x.row = nil
		return x.enter(first, decoded)
	case len(x.row) == 3:
		return x.upward(s)
	}
	return api.OK
}

// each ends a row with a list.
func (x *model) each() api.Errno {
	first, _ := x.code(x.row[0])
	last, _ := x.code(x.row[1])
	list := x.row[3:]
	x.row = nil
	if len(list) != last-first+1 {
		return api.ErrForm
	}
	for i, s := range list {
		text, _ := decoded(s)
		if e := x.enter(first+i, text); e != api.OK {
			return e
		}
	}
	return api.OK
}

// upward ends a row with a single string.
func (x *model) upward(s string) api.Errno {
	first, _ := x.code(x.row[0])
	last, _ := x.code(x.row[1])
	x.row = nil
	if s == "" {
		return api.ErrForm
	}
	unit := int(s[len(s)-2])*256 + int(s[len(s)-1])
	if unit+last-first > 65535 {
		return api.ErrRange
	}
	for code := first; code <= last; code++ {
		text, ok := decoded(s[:len(s)-2] + units(uint16(unit+code-first)))
		if !ok {
			return api.ErrRange
		}
		if e := x.enter(code, text); e != api.OK {
			return e
		}
	}
	return api.OK
}

// readByTheWords does what Read does.
func readByTheWords(s string) ([]api.Map, bool, api.Errno) {
	var x model
	for at := 0; ; {
		t, e := lex.Next(s, at)
		if e == api.OK {
			e = x.take(t)
		}
		if e != api.OK {
			return nil, false, e
		}
		if t.Kind == api.TEnd {
			break
		}
		at = t.To
	}
	var l []api.Map
	for _, m := range x.mapped {
		if !slices.ContainsFunc(l, func(old api.Map) bool { return old.Code == m.Code }) {
			l = append(l, m)
		}
	}
	slices.SortFunc(l, func(a, b api.Map) int { return a.Code - b.Code })
	return l, x.size == 2, api.OK
}

// mixer makes choices that look irregular and are always the same.
type mixer uint32

// pick chooses a number from 0 to below, not included.
func (x *mixer) pick(below int) int {
	*x = *x*1664525 + 1013904223
	return int(*x>>8) % below
}

// one reports, once in so many times, that something is to be.
func (x *mixer) one(times int) bool { return x.pick(times) == 0 }

// among chooses one of the words of s.
func (x *mixer) among(s string) string {
	list := strings.Fields(s)
	return list[x.pick(len(list))]
}

// code returns a code of so many bytes, which is small in most cases, as it is written.
func (x *mixer) code(size, n int) string {
	if x.one(60) {
		size = x.pick(4)
	}
	switch size {
	case 0:
		return "<>"
	case 1:
		return fmt.Sprintf("<%02x>", n%256)
	case 2:
		return fmt.Sprintf("<%04X>", n)
	}
	return "<000000>"
}

// text returns a text as it is written.
func (x *mixer) text() string {
	var list []string
	for range x.pick(4) + x.pick(2) {
		list = append(list, x.among("0061 0062 00FF 00FE FFFD FFFE 0000 D7FC D7FE E000 D83DDE00 D83DDFFD D83DDFFE D800DC00 DBFFDFFF"))
	}
	if x.one(40) {
		list = append(list, x.among("D800 DC00 00 0"))
	}
	return "<" + strings.Join(list, "") + ">"
}

// row returns a row of a section.
func (x *mixer) row(kind string, size int) string {
	first := x.pick(40)
	if x.one(3) {
		first = x.pick(200)
	}
	if size == 2 && x.one(3) {
		first += 256 * x.pick(250)
	}
	last := first + x.pick(5)
	if x.one(50) {
		last = max(first-1, 0)
	}
	switch kind {
	case "codespacerange":
		return x.code(size, first) + x.code(size, last)
	case "bfchar":
		return x.code(size, first) + x.text()
	}
	row := x.code(size, first) + x.code(size, last)
	if x.one(2) {
		return row + x.text()
	}
	n := last - first + 1
	if x.one(20) {
		n += x.pick(3) - 1
	}
	row += "["
	for range n {
		row += x.text()
	}
	return row + "]"
}

// document returns a text for Read, which is wrong in some cases.
func (x *mixer) document() string {
	size := 1 + x.pick(2)
	s := x.among("/CMap begincmap (a) [ <3> 12 % <<") + "\n"
	for range x.pick(5) {
		kind := x.among("codespacerange bfchar bfchar bfrange bfrange bfrange")
		end := kind
		if x.one(60) {
			end = x.among("codespacerange bfchar bfrange")
		}
		s += " begin" + kind + " "
		for range x.pick(6) {
			s += x.row(kind, size) + "\n"
		}
		if !x.one(40) {
			s += " end" + end + "\n"
		}
		s += x.among("def <00> ] /x 7 endcmap endbfchar") + " "
	}
	if x.one(40) {
		return s[:x.pick(len(s))]
	}
	if x.one(12) {
		// A token that stands anywhere.
		at := x.pick(len(s))
		s = s[:at] + x.among("[ ] < > ) ( /A 7 1.5 word <> << endbfchar beginbfchar <0041> %") + s[at:]
	}
	return s
}

// Promise 46.2, by the words of the chapter.
func TestReadByTheWords(t *testing.T) {
	x, found, codes := mixer(46), map[api.Errno]int{}, 0
	for range 40000 {
		s := x.document()
		want, wantWide, wantErr := readByTheWords(s)
		l, wide, e := cmap.Read(s)
		if !slices.Equal(l, want) || wide != wantWide || e != wantErr {
			t.Fatalf("Read(%q) = %v, %v, %d, want %v, %v, %d", s, l, wide, e, want, wantWide, wantErr)
		}
		found[e]++
		codes += len(l)
	}
	for _, e := range []api.Errno{api.OK, api.ErrForm, api.ErrEnd, api.ErrRange} {
		if found[e] < 300 {
			t.Errorf("the errors are %v", found)
		}
	}
	if codes < 50000 {
		t.Errorf("%d codes were mapped", codes)
	}
}

// maps returns entries that Check accepts.
func (x *mixer) maps(wide bool) []api.Map {
	var l []api.Map
	code := x.pick(3)
	for range x.pick(12) * x.pick(12) {
		if code > 255 && !wide || code > 65535 {
			break
		}
		s := ""
		for range x.pick(4) {
			s += string([]rune("a\x00é\uFFFD\uD7FF\uE000\uFFFF\U0001F600\U00010000\U0010FFFF")[x.pick(10)])
		}
		l = append(l, api.Map{Code: code, S: s})
		code += 1 + x.pick(3)*x.pick(3)
		if wide {
			code += x.pick(2) * x.pick(800)
		}
	}
	return l
}

// Promise 46.5: Read returns what Text wrote.
func TestReadWhatTextWrote(t *testing.T) {
	x := mixer(47)
	for i := range 3000 {
		wide := i%2 > 0
		l := x.maps(wide)
		if e := cmap.Check(l, wide); e != api.OK {
			t.Fatalf("Check(%v, %v) = %d", l, wide, e)
		}
		s, e := cmap.Text(l, wide)
		back, backWide, backErr := cmap.Read(s)
		if e != api.OK || !slices.Equal(back, l) || backWide != wide || backErr != api.OK {
			t.Fatalf("%v is written as %q, %d, and read as %v, %v, %d", l, s, e, back, backWide, backErr)
		}
	}
	for _, size := range []int{256, 4096} {
		l := many(size)
		l[0].S, l[size-1].S = strings.Repeat("\U0001F600", 128), strings.Repeat("é", 256)
		s, _ := cmap.Text(l, size > 256)
		if back, wide, e := cmap.Read(s); !slices.Equal(back, l) || wide != (size > 256) || e != api.OK {
			t.Errorf("%d entries are read as %s, %v, %d", size, brief(back), wide, e)
		}
	}
}

// Promise 46.6: a row of bfrange is equivalent to rows of bfchar for its codes.
func TestRangeIsChars(t *testing.T) {
	for _, c := range [][2]string{
		{"beginbfrange <41><44><0061> endbfrange", "beginbfchar <41><0061><42><0062><43><0063><44><0064> endbfchar"}, {"beginbfrange <00FE><0101><006100FE> endbfrange", "beginbfchar <00FE><006100FE><00FF><006100FF><0100><00610100><0101><00610101> endbfchar"}, {"beginbfrange <41><43><D83DDE00> endbfrange", "beginbfchar <41><D83DDE00><42><D83DDE01><43><D83DDE02> endbfchar"}, {"beginbfrange <41><43>[<><D83DDE00><0061>] endbfrange", "beginbfchar <41><><42><D83DDE00><43><0061> endbfchar"},
	} {
		a, wideA, e1 := cmap.Read(c[0])
		b, wideB, e2 := cmap.Read(c[1])
		if !slices.Equal(a, b) || len(a) == 0 || wideA != wideB || e1 != api.OK || e2 != api.OK {
			t.Errorf("%s is %v, %d, and %s is %v, %d", c[0], a, e1, c[1], b, e2)
		}
	}
}
