package cmap_test

import (
	"fmt"
	"math"
	"slices"
	"strconv"
	"strings"
	"testing"
	"time"
	"unicode/utf16"
	"unicode/utf8"

	"foliant/api"
	"foliant/cmap"
	"foliant/sample"
)

// brief shows the beginning of anything.
func brief(x any) string { return fmt.Sprintf("%.300q", fmt.Sprint(x)) }

// units returns code units as bytes.
func units(list ...uint16) string {
	var out []byte
	for _, u := range list {
		out = append(out, byte(u>>8), byte(u))
	}
	return string(out)
}

// Promise 46.1.
func TestUtf(t *testing.T) {
	for _, c := range []struct {
		s, want string
		err     api.Errno
	}{
		{"", "", api.OK}, {units('a'), "a", api.OK}, {units('a', 'b', 0, 0x7F), "ab\x00\x7F", api.OK}, {units(0x80, 0x7FF, 0x800, 0xFFFF), "\u0080\u07FF\u0800\uFFFF", api.OK}, {units(0xD7FF, 0xE000, 0xFFFD), "\uD7FF\uE000\uFFFD", api.OK},
		{units(0xD83D, 0xDE00), "\U0001F600", api.OK}, {units(0xD800, 0xDC00), "\U00010000", api.OK}, {units(0xDBFF, 0xDFFF), "\U0010FFFF", api.OK}, {units(0xD800, 0xDFFF, 'a', 0xDBFF, 0xDC00), "\U000103FFa\U0010FC00", api.OK},
		{"a", "", api.ErrForm}, {"\x00a\x00", "", api.ErrForm}, {units(0xD83D, 0xDE00) + "a", "", api.ErrForm}, {units(0xD83D) + "\xDE", "", api.ErrForm},
		{units(0xD800), "", api.ErrForm}, {units(0xDBFF), "", api.ErrForm}, {units(0xDC00), "", api.ErrForm}, {units(0xDFFF), "", api.ErrForm}, {units('a', 0xD800), "", api.ErrForm}, {units(0xD800, 'a'), "", api.ErrForm}, {units('a', 0xDC00, 'a'), "", api.ErrForm}, {units(0xDC00, 0xD800), "", api.ErrForm}, {units(0xD800, 0xD800, 0xDC00), "", api.ErrForm}, {units(0xD800, 0xDC00, 0xDC00), "", api.ErrForm}, {units(0xD800, 0xD7FF), "", api.ErrForm}, {units(0xD800, 0xE000), "", api.ErrForm}, {units(0xD800, 0xDBFF), "", api.ErrForm},
	} {
		if s, e := cmap.Utf(c.s); s != c.want || e != c.err {
			t.Errorf("Utf(%x) = %q, %d, want %q, %d", c.s, s, e, c.want, c.err)
		}
	}
	// Each unit alone, and after and before another one.
	for u := range 1 << 16 {
		for _, list := range [][]uint16{{uint16(u)}, {'a', uint16(u)}, {0xD801, uint16(u)}, {uint16(u), 0xDC01}, {uint16(u), 'a'}} {
			want, wantErr := string(utf16.Decode(list)), api.OK
			if !slices.Equal(utf16.Encode([]rune(want)), list) {
				want, wantErr = "", api.ErrForm
			}
			if s, e := cmap.Utf(units(list...)); s != want || e != wantErr {
				t.Errorf("Utf(%x) = %q, %d, want %q, %d", list, s, e, want, wantErr)
			}
		}
	}
}

// Promise 46.1.
func TestUnits(t *testing.T) {
	for _, c := range []struct{ s, want string }{
		{"", ""}, {"a", "\x00a"}, {"a\x00\x7F", units('a', 0, 0x7F)}, {"\u0080\u07FF\u0800\uFFFD\uFFFF", units(0x80, 0x7FF, 0x800, 0xFFFD, 0xFFFF)}, {"\U0001F600", units(0xD83D, 0xDE00)}, {"\U00010000\U0010FFFF", units(0xD800, 0xDC00, 0xDBFF, 0xDFFF)},
		{"\xff", units(0xFFFD)}, {"a\x80b", units('a', 0xFFFD, 'b')}, {"\xE2\x82", units(0xFFFD, 0xFFFD)}, {"\xED\xA0\x80", units(0xFFFD, 0xFFFD, 0xFFFD)}, {"\xC0\x80", units(0xFFFD, 0xFFFD)}, {"\xF4\x90\x80\x80", units(0xFFFD, 0xFFFD, 0xFFFD, 0xFFFD)}, {"\xF0\x9F\x98a", units(0xFFFD, 0xFFFD, 0xFFFD, 'a')},
	} {
		if s := cmap.Units(c.s); s != c.want {
			t.Errorf("Units(%q) = %x, want %x", c.s, s, c.want)
		}
	}
	for _, s := range []string{sample.Bytes(), sample.Bytes() + "é€\U0001F600"} {
		if got := cmap.Units(s); got != units(utf16.Encode([]rune(s))...) {
			t.Errorf("Units(%q) = %x", s, got)
		}
	}
}

// Promise 46.5: Utf reverses Units, for each character.
func TestUtfReversesUnits(t *testing.T) {
	for r := rune(0); r <= utf8.MaxRune; r++ {
		if !utf8.ValidRune(r) {
			continue
		}
		want := string(r)
		if r%64 == 0 {
			want = "a" + want + want
		}
		if s, e := cmap.Utf(cmap.Units(want)); s != want || e != api.OK {
			t.Fatalf("Utf(Units(%q)) = %q, %d", want, s, e)
		}
	}
}

// read is a text with what Read must answer.
type read struct {
	s    string
	want []api.Map
	wide bool
}

// reads returns texts that have no error.
func reads() []read {
	list := []read{
		{"", nil, false}, {"no maps (here) <3> [ ] << >> { } 1.5 /beginbfchar endbfchar endbfrange endcodespacerange %beginbfchar\n", nil, false}, {"BeginBfChar beginbfchars Begincodespacerange", nil, false}, {"/CIDInit /ProcSet findresource begin 12 dict begin begincmap /CIDSystemInfo << /Registry (Adobe) /Ordering (UCS) /Supplement 0 >> def endcmap", nil, false},
		{"begincodespacerange endcodespacerange beginbfchar endbfchar beginbfrange endbfrange", nil, false}, {"1 begincodespacerange <00> <FF> endcodespacerange", nil, false}, {"1 begincodespacerange <0000> <FFFF> endcodespacerange", nil, true}, {"begincodespacerange <00><00><41><7F>endcodespacerange", nil, false}, {"begincodespacerange(a)(b)endcodespacerange", nil, false},
		{"1 beginbfrange <41><43><0061> endbfrange", []api.Map{{Code: 65, S: "a"}, {Code: 66, S: "b"}, {Code: 67, S: "c"}}, false},
		{"beginbfchar <41> <0061> endbfchar", []api.Map{{Code: 65, S: "a"}}, false}, {"beginbfchar <0041> <0061> endbfchar", []api.Map{{Code: 65, S: "a"}}, true}, {"beginbfchar <4100> <0061> endbfchar", []api.Map{{Code: 0x4100, S: "a"}}, true}, {"beginbfchar <FF> <> <00> <D83DDE00> <7> <006100620063> endbfchar", []api.Map{{Code: 0, S: "\U0001F600"}, {Code: 112, S: "abc"}, {Code: 255, S: ""}}, false}, {"beginbfchar (AB) (\\000c\\000d) (\\000\\000) <0000> endbfchar", []api.Map{{Code: 0, S: "\x00"}, {Code: 0x4142, S: "cd"}}, true},
		{"7 beginbfchar%<\n<41>%>\r<0061>endbfchar endbfchar", []api.Map{{Code: 65, S: "a"}}, false},
		{"beginbfrange <41><41><0061> endbfrange", []api.Map{{Code: 65, S: "a"}}, false}, {"beginbfrange <00FF><0101><00620061> endbfrange", []api.Map{{Code: 255, S: "ba"}, {Code: 256, S: "bb"}, {Code: 257, S: "bc"}}, true}, {"beginbfrange <41><42><00FF> endbfrange", []api.Map{{Code: 65, S: "\u00FF"}, {Code: 66, S: "\u0100"}}, false}, {"beginbfrange <41><42><0061FFFE> endbfrange", []api.Map{{Code: 65, S: "a\uFFFE"}, {Code: 66, S: "a\uFFFF"}}, false}, {"beginbfrange <41><42><D83DDE00> endbfrange", []api.Map{{Code: 65, S: "\U0001F600"}, {Code: 66, S: "\U0001F601"}}, false}, {"beginbfrange <41><42><D83DDFFE> endbfrange", []api.Map{{Code: 65, S: "\U0001F7FE"}, {Code: 66, S: "\U0001F7FF"}}, false}, {"beginbfrange <41><42><D83DDE000061> endbfrange", []api.Map{{Code: 65, S: "\U0001F600a"}, {Code: 66, S: "\U0001F600b"}}, false}, {"beginbfrange <41><42><D83DDE00E000> endbfrange", []api.Map{{Code: 65, S: "\U0001F600\uE000"}, {Code: 66, S: "\U0001F600\uE001"}}, false}, {"beginbfrange <41><42><D7FE> endbfrange", []api.Map{{Code: 65, S: "\uD7FE"}, {Code: 66, S: "\uD7FF"}}, false}, {"beginbfrange <41><41><FFFF> endbfrange", []api.Map{{Code: 65, S: "\uFFFF"}}, false}, {"beginbfrange <41><41><00FFD800DFFF> endbfrange", []api.Map{{Code: 65, S: "\u00FF\U000103FF"}}, false},
		{"beginbfrange <41><43>[<0061><><00620063>] endbfrange", []api.Map{{Code: 65, S: "a"}, {Code: 66, S: ""}, {Code: 67, S: "bc"}}, false}, {"beginbfrange <FFFF><FFFF>[<D800DC00>]<0000><0000>[(\\000a)]endbfrange", []api.Map{{Code: 0, S: "a"}, {Code: 65535, S: "\U00010000"}}, true},
		// The first row that maps a code counts.
		{"beginbfchar <41><0061><42><0062><41><0063> endbfchar beginbfrange <40><43><0030><41><41>[<0031>] endbfrange beginbfchar <43><0039> endbfchar", []api.Map{{Code: 64, S: "0"}, {Code: 65, S: "a"}, {Code: 66, S: "b"}, {Code: 67, S: "3"}}, false}, {"beginbfrange <41><42>[<0061><0062>]<41><42><0063> endbfrange", []api.Map{{Code: 65, S: "a"}, {Code: 66, S: "b"}}, false},
		// Codes outside the code spaces.
		{"begincodespacerange <00><10> endcodespacerange beginbfchar <41><0061> endbfchar begincodespacerange <10><10> endcodespacerange", []api.Map{{Code: 65, S: "a"}}, false},
	}
	all := read{s: "beginbfrange <0000><0FFF><0000> endbfrange", wide: true}
	for n := range 4096 {
		all.want = append(all.want, api.Map{Code: n, S: string(rune(n))})
	}
	return append(list, all)
}

// Promise 46.2.
func TestRead(t *testing.T) {
	for _, c := range reads() {
		l, wide, e := cmap.Read(c.s)
		if !slices.Equal(l, c.want) || wide != c.wide || e != api.OK {
			t.Errorf("Read(%.200q) = %s, %v, %d, want %s, %v", c.s, brief(l), wide, e, brief(c.want), c.wide)
		}
	}
}

// wrongs returns texts with their errors.
func wrongs() map[string]api.Errno {
	return map[string]api.Errno{
		// The errors of the tokenizer, in and outside of sections.
		")": api.ErrForm, "a >": api.ErrForm, "/#00": api.ErrForm, "(": api.ErrEnd, "a <41": api.ErrEnd, "99999999999": api.ErrRange, "/" + strings.Repeat("n", 128): api.ErrLong, strings.Repeat("w", 128): api.ErrLong, "beginbfchar <41> <0": api.ErrEnd, "beginbfchar <4x> <0061> endbfchar": api.ErrForm, "beginbfchar endbfchar )": api.ErrForm, "beginbfrange <41> <42> [ 99999999999": api.ErrRange, "beginbfchar <41> (" + strings.Repeat("s", 32768) + ")": api.ErrLong,
		// Sections that do not end.
		"begincodespacerange": api.ErrEnd, "beginbfchar": api.ErrEnd, "beginbfrange": api.ErrEnd, "begincodespacerange <00>": api.ErrEnd, "begincodespacerange <00> <FF>": api.ErrEnd, "beginbfchar <41>": api.ErrEnd, "beginbfchar <41> <0061> % endbfchar": api.ErrEnd, "beginbfrange <41>": api.ErrEnd, "beginbfrange <41><41>": api.ErrEnd, "beginbfrange <41><41><0061>": api.ErrEnd, "beginbfrange <41><41>[": api.ErrEnd, "beginbfrange <41><41>[<0061>": api.ErrEnd, "beginbfrange <41><41>[<0061>]": api.ErrEnd, "beginbfchar endbfchar beginbfchar": api.ErrEnd,
		// Tokens that are not permitted.
		"beginbfchar endbfrange": api.ErrForm, "beginbfrange endbfchar": api.ErrForm, "begincodespacerange endbfchar": api.ErrForm, "beginbfchar endcodespacerange": api.ErrForm, "beginbfchar beginbfchar": api.ErrForm, "beginbfchar 1": api.ErrForm, "beginbfchar [": api.ErrForm, "beginbfchar /A": api.ErrForm, "beginbfchar endbfchars": api.ErrForm, "beginbfchar /endbfchar": api.ErrForm, "beginbfchar 1.5": api.ErrForm, "beginbfchar <<": api.ErrForm,
		"beginbfchar <41> endbfchar": api.ErrForm, "beginbfchar <41> 97": api.ErrForm, "beginbfchar <41> /a": api.ErrForm, "beginbfchar <41> [": api.ErrForm, "beginbfchar <41> a": api.ErrForm, "begincodespacerange <00> endcodespacerange": api.ErrForm, "begincodespacerange <00> 255": api.ErrForm, "begincodespacerange <00> <FF> <0041>": api.ErrForm, "beginbfrange <41> endbfrange": api.ErrForm, "beginbfrange <41> [": api.ErrForm, "beginbfrange <41> 66": api.ErrForm, "beginbfrange <41><41> endbfrange": api.ErrForm, "beginbfrange <41><41> 97": api.ErrForm, "beginbfrange <41><41> /a": api.ErrForm, "beginbfrange <41><41> ]": api.ErrForm, "beginbfrange <41><41> {": api.ErrForm, "beginbfrange <41><41>[97": api.ErrForm, "beginbfrange <41><41>[[": api.ErrForm, "beginbfrange <41><41>[<0061> endbfrange": api.ErrForm, "beginbfrange <41><41>[<0061> /a": api.ErrForm,
		// Codes.
		"beginbfchar <>": api.ErrForm, "beginbfchar <414243>": api.ErrForm, "beginbfchar ()": api.ErrForm, "begincodespacerange <00> <>": api.ErrForm, "begincodespacerange <00> <FFFF>": api.ErrForm, "begincodespacerange <0000> <FF>": api.ErrForm, "begincodespacerange <000000> <FFFFFF>": api.ErrForm, "beginbfrange <41> <0042>": api.ErrForm, "beginbfchar <41> <0061> <0042>": api.ErrForm, "beginbfchar <0041> <0061> <42>": api.ErrForm, "begincodespacerange <00> <FF> endcodespacerange beginbfchar <0041>": api.ErrForm, "begincodespacerange <0000> <FFFF> endcodespacerange beginbfrange <41>": api.ErrForm, "beginbfchar <41> <0061> endbfchar beginbfrange <0041>": api.ErrForm,
		"begincodespacerange <41> <40>": api.ErrForm, "beginbfrange <41> <40>": api.ErrForm, "beginbfrange <0100> <00FF>": api.ErrForm, "begincodespacerange <FFFF> <FFFE>": api.ErrForm,
		// Texts.
		"beginbfchar <41> <61>": api.ErrForm, "beginbfchar <41> <D800>": api.ErrForm, "beginbfchar <41> <DC00>": api.ErrForm, "beginbfchar <41> <006100>": api.ErrForm, "beginbfrange <41><41><61>": api.ErrForm, "beginbfrange <41><41><D800>": api.ErrForm, "beginbfrange <41><42>[<0061> <61>": api.ErrForm, "beginbfrange <41><42>[<0061> <DC00>": api.ErrForm, "beginbfrange <41><42><DC00D800>": api.ErrForm,
		"beginbfrange <41><41><>": api.ErrForm, "beginbfrange <41><42>()": api.ErrForm, "beginbfrange <41><42><FFFF>": api.ErrRange, "beginbfrange <41><44><FFFD>": api.ErrRange, "beginbfrange <0000><FFFF><0001>": api.ErrRange, "beginbfrange <41><42><0061FFFF>": api.ErrRange, "beginbfrange <41><42><FFFF61>": api.ErrForm,
		"beginbfrange <41><42>[<0061>]": api.ErrForm, "beginbfrange <41><41>[]": api.ErrForm, "beginbfrange <41><41>[<0061><0062>]": api.ErrForm, "beginbfrange <41><43>[<0061><0062>]": api.ErrForm, "beginbfrange <0000><FFFF>[<0061>]": api.ErrForm,
		"beginbfrange <41><42><D7FF>": api.ErrRange, "beginbfrange <41><43><D7FE>": api.ErrRange, "beginbfrange <41><42><D83DDFFF>": api.ErrRange, "beginbfrange <41><43><D83DDFFE>": api.ErrRange, "beginbfrange <41><42><0061D7FF>": api.ErrRange, "beginbfrange <0000><0900><D700>": api.ErrRange,
		// What comes first.
		"beginbfchar <41> <61> )": api.ErrForm, "beginbfchar <41> <61> (": api.ErrForm, "beginbfrange <41><42>[<0061>] (": api.ErrForm, "beginbfrange <41><42>[<0061> ( ]": api.ErrEnd, "beginbfrange <41><42><FFFF> )": api.ErrRange, "beginbfrange <42><41><61>": api.ErrForm, "beginbfrange <41><41>[<0061><0062> 1 ]": api.ErrForm, "beginbfrange <41><41>[<0061><0062> 99999999999 ]": api.ErrRange, "beginbfchar <41> <FFFF> <42>": api.ErrEnd,
		"beginbfrange <0000><1000><0000>": api.ErrMany, "beginbfrange <0000><FFFF><0000>": api.ErrMany, "beginbfrange <0000><0FFF><0000> endbfrange beginbfchar <0000> <0061>": api.ErrMany, "beginbfrange <0000><0FFF><0000> endbfrange beginbfchar <0000> <61>": api.ErrForm, "beginbfrange <0000><0FFE><0000> <0000><0001>[<0061><0061>]": api.ErrMany, "beginbfrange <0000><0FFF><0000> <0000><0001><D7FF>": api.ErrMany, "beginbfrange <0000><0FFE><0000> <0000><0001><D7FF>": api.ErrRange, "beginbfrange <0000><0FFE><0000> <0000><0002><D7FE>": api.ErrMany, "beginbfrange <0000><0FFF><0000> <0000><0001><FFFF>": api.ErrRange,
		strings.Repeat("beginbfrange <00><FF><0000> endbfrange ", 16) + "beginbfchar <00><0061>": api.ErrMany, strings.Repeat("beginbfrange <00><FF><0000> endbfrange ", 16) + "beginbfchar <00>": api.ErrEnd,
	}
}

// Promise 46.2: errors.
func TestReadErrors(t *testing.T) {
	for s, want := range wrongs() {
		if l, wide, e := cmap.Read(s); l != nil || wide || e != want {
			t.Errorf("Read(%.200q) = %s, %v, %d, want %d", s, brief(l), wide, e, want)
		}
	}
}

// Promise 46.2: as many codes as can be mapped, counting repetitions.
func TestReadMany(t *testing.T) {
	s := strings.Repeat("beginbfrange <00><FF><0000> endbfrange ", 16)
	if l, wide, e := cmap.Read(s); len(l) != 256 || l[255].S != "\u00FF" || wide || e != api.OK {
		t.Errorf("Read of 4096 repetitions = %s, %v, %d", brief(l), wide, e)
	}
	if l, _, e := cmap.Read(s + "beginbfrange <00><00>[<0061>] endbfrange"); l != nil || e != api.ErrMany {
		t.Errorf("Read of 4097 repetitions = %s, %d", brief(l), e)
	}
	if l, _, e := cmap.Read(strings.Repeat("begincodespacerange"+strings.Repeat("<00><FF>", 500)+"endcodespacerange ", 20)); len(l) != 0 || e != api.OK {
		t.Errorf("Read of many code spaces = %s, %d", brief(l), e)
	}
}

// Promise 46.2: the time for long texts, and for rows of many codes.
func TestReadTime(t *testing.T) {
	for i, s := range []string{
		strings.Repeat("beginbfrange <0000><0000><0061> endbfrange ", 4096), strings.Repeat("[ ", 1<<19), strings.Repeat("beginbfchar endbfchar ", 50000), "beginbfrange " + strings.Repeat("<0000><FFFF><0061>", 50000),
		"beginbfrange <0000><FFFF>[" + strings.Repeat("<>", 1<<19), "beginbfrange <0000><0FFF><" + strings.Repeat("0061", 8000) + "> endbfrange",
	} {
		start := time.Now()
		cmap.Read(s)
		if d := time.Since(start); d > 5*time.Second {
			t.Errorf("Read %d took %v", i, d)
		}
	}
}

// many returns so many entries.
func many(size int) []api.Map {
	var l []api.Map
	for n := range size {
		l = append(l, api.Map{Code: n, S: "a"})
	}
	return l
}

// Promise 46.3.
func TestCheck(t *testing.T) {
	long := strings.Repeat("\U0001F600", 128)
	one := func(code int, s string) []api.Map { return []api.Map{{Code: code, S: s}} }
	for i, c := range []struct {
		l    []api.Map
		wide bool
		want api.Errno
	}{
		{nil, false, api.OK}, {nil, true, api.OK}, {one(0, ""), false, api.OK}, {one(255, "a"), false, api.OK}, {one(65535, "a"), true, api.OK}, {one(256, "a"), true, api.OK}, {[]api.Map{{Code: 1, S: "a"}, {Code: 2, S: "a"}, {Code: 200, S: ""}}, false, api.OK}, {many(4096), true, api.OK}, {many(256), false, api.OK},
		{one(0, strings.Repeat("a", 256)), false, api.OK}, {one(0, strings.Repeat("é", 256)), false, api.OK}, {one(0, long), false, api.OK}, {one(0, "\uFFFD"), false, api.OK}, {one(0, "\x00"), false, api.OK},
		{many(4097), true, api.ErrMany}, {append(many(4096), api.Map{Code: -1, S: "\xff"}), true, api.ErrMany}, {append([]api.Map{{Code: -1}}, many(4096)...), true, api.ErrMany},
		{one(-1, ""), false, api.ErrRange}, {one(256, ""), false, api.ErrRange}, {one(65536, ""), true, api.ErrRange}, {one(-1, "a"), true, api.ErrRange}, {one(math.MinInt, "\xff"), true, api.ErrRange}, {one(math.MaxInt, ""), false, api.ErrRange}, {many(257), false, api.ErrRange},
		{one(0, "\xff"), false, api.ErrForm}, {one(0, "a\xE2\x82"), false, api.ErrForm}, {one(0, "\xED\xA0\x80"), true, api.ErrForm}, {one(0, strings.Repeat("a", 300)+"\x80"), false, api.ErrForm},
		{one(0, strings.Repeat("a", 257)), false, api.ErrLong}, {one(0, long+"a"), false, api.ErrLong}, {one(0, strings.Repeat("\U00010000", 128)), false, api.OK}, {one(0, strings.Repeat("\U00010000", 128)+"a"), false, api.ErrLong}, {one(0, strings.Repeat("\uFFFF", 256)), false, api.OK}, {one(0, strings.Repeat("a", 255)+"\U0001F600"), true, api.ErrLong},
		{[]api.Map{{Code: 5}, {Code: 5}}, false, api.ErrTwice}, {[]api.Map{{Code: 5}, {Code: 4}}, false, api.ErrArg}, {[]api.Map{{Code: 1}, {Code: 3}, {Code: 2}, {Code: 2}}, false, api.ErrArg}, {[]api.Map{{Code: 1}, {Code: 3}, {Code: 3}, {Code: 1}}, false, api.ErrTwice},
		{[]api.Map{{Code: 5}, {Code: 5, S: strings.Repeat("a", 257)}}, false, api.ErrLong}, {[]api.Map{{Code: 5}, {Code: 4, S: "\xff"}}, false, api.ErrForm}, {[]api.Map{{Code: 5}, {Code: -1}}, false, api.ErrRange}, {[]api.Map{{Code: 5, S: "\xff"}, {Code: -1}}, false, api.ErrForm},
	} {
		if e := cmap.Check(c.l, c.wide); e != c.want {
			t.Errorf("Check %d = %d, want %d", i, e, c.want)
		}
		s, e := cmap.Text(c.l, c.wide)
		if e != c.want || (s == "") != (e != api.OK) {
			t.Errorf("Text %d = %s, %d, want %d", i, brief(s), e, c.want)
		}
	}
}

// Promise 46.3, byte by byte.
func TestText(t *testing.T) {
	for _, c := range []struct {
		l    []api.Map
		wide bool
		want string
	}{
		{nil, false, "1 begincodespacerange\n<00> <FF>\nendcodespacerange\nendcmap\n"}, {[]api.Map{}, true, "1 begincodespacerange\n<0000> <FFFF>\nendcodespacerange\nendcmap\n"},
		{[]api.Map{{Code: 10, S: "a"}, {Code: 255, S: ""}}, false, "1 begincodespacerange\n<00> <FF>\nendcodespacerange\n2 beginbfchar\n<0A> <0061>\n<FF> <>\nendbfchar\nendcmap\n"},
		{[]api.Map{{Code: 10, S: "é\U0001F600z"}, {Code: 0xABCD, S: "\x00"}}, true, "1 begincodespacerange\n<0000> <FFFF>\nendcodespacerange\n2 beginbfchar\n<000A> <00E9D83DDE00007A>\n<ABCD> <0000>\nendbfchar\nendcmap\n"},
	} {
		if s, e := cmap.Text(c.l, c.wide); s != c.want || e != api.OK {
			t.Errorf("Text(%v, %v) = %q, %d, want %q", c.l, c.wide, s, e, c.want)
		}
	}
	for _, size := range []int{1, 99, 100, 101, 200, 201, 256} {
		s, e := cmap.Text(many(size), false)
		want := "1 begincodespacerange\n<00> <FF>\nendcodespacerange\n"
		for from := 0; from < size; from += 100 {
			to := min(from+100, size)
			want += strconv.Itoa(to-from) + " beginbfchar\n"
			for n := from; n < to; n++ {
				want += fmt.Sprintf("<%02X> <0061>\n", n)
			}
			want += "endbfchar\n"
		}
		if want += "endcmap\n"; s != want || e != api.OK {
			t.Errorf("Text of %d entries = %s, %d", size, brief(s), e)
		}
	}
}

// Promise 46.4.
func TestFind(t *testing.T) {
	l := []api.Map{{Code: 5, S: "a"}, {Code: 3, S: "b"}, {Code: 5, S: "c"}, {Code: -7, S: "d"}, {Code: 9, S: ""}, {Code: 1 << 40, S: "\xff"}}
	for _, c := range []struct {
		code int
		want string
		ok   bool
	}{
		{5, "a", true}, {3, "b", true}, {-7, "d", true}, {9, "", true}, {1 << 40, "\xff", true}, {0, "", false}, {4, "", false}, {math.MaxInt, "", false}, {math.MinInt, "", false},
	} {
		if s, ok := cmap.Find(l, c.code); s != c.want || ok != c.ok {
			t.Errorf("Find(%d) = %q, %v, want %q, %v", c.code, s, ok, c.want, c.ok)
		}
		if s, ok := cmap.Find(nil, c.code); s != "" || ok {
			t.Errorf("Find(%d) in nothing = %q, %v", c.code, s, ok)
		}
	}
}
