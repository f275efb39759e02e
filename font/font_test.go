package font_test

import (
	"fmt"
	"math"
	"slices"
	"strings"
	"testing"
	"unicode/utf8"

	"foliant/api"
	"foliant/font"
	"foliant/sample"
)

// brief shows the beginning of anything.
func brief(x any) string { return fmt.Sprintf("%.500s", fmt.Sprintf("%q", fmt.Sprint(x))) }

// same reports whether two fonts are equal.
func same(a, b api.Font) bool {
	return a.Name == b.Name && a.Wide == b.Wide && a.First == b.First && slices.Equal(a.Widths, b.Widths) && a.Missing == b.Missing && slices.Equal(a.Names, b.Names) && slices.Equal(a.Maps, b.Maps)
}

// plain returns a font with a change.
func plain(change func(f *api.Font)) api.Font {
	f := api.Font{Name: "F"}
	change(&f)
	return f
}

// wide returns a wide font with a change.
func wide(change func(f *api.Font)) api.Font {
	f := api.Font{Name: "F", Wide: true}
	change(&f)
	return f
}

// widths returns so many widths.
func widths(size int) []int64 {
	l := make([]int64, size)
	for i := range l {
		l[i] = int64(i * 7 % 1000)
	}
	return l
}

// names returns so many names.
func names(size int) []string { return make([]string, size) }

// with returns 256 names, of which that of code 7 is s.
func with(s string) []string {
	l := names(256)
	l[7] = s
	return l
}

// sounds returns fonts that are valid.
func sounds() []api.Font {
	return []api.Font{
		plain(func(*api.Font) {}), wide(func(*api.Font) {}), plain(func(f *api.Font) { f.Name = strings.Repeat("n", 127) }), plain(func(f *api.Font) { f.Name = "\xff #/" }),
		plain(func(f *api.Font) { f.First = 256 }), plain(func(f *api.Font) { f.First = 7 }), wide(func(f *api.Font) { f.First = 65536 }), plain(func(f *api.Font) { f.Widths = widths(256) }), plain(func(f *api.Font) { f.First, f.Widths = 255, widths(1) }), plain(func(f *api.Font) { f.First, f.Widths = 100, widths(156) }), wide(func(f *api.Font) { f.Widths = widths(4096) }), wide(func(f *api.Font) { f.First, f.Widths = 61440, widths(4096) }), wide(func(f *api.Font) { f.First, f.Widths = 65535, widths(1) }),
		plain(func(f *api.Font) { f.Widths = []int64{0, 100000} }), plain(func(f *api.Font) { f.Missing = 100000 }), wide(func(f *api.Font) { f.Missing = 1 }), wide(func(f *api.Font) { f.Missing, f.Widths = 1000, []int64{1000, 1000} }),
		plain(func(f *api.Font) { f.Names = names(256) }), plain(func(f *api.Font) { f.Names = font.Usual() }), plain(func(f *api.Font) { f.Names = with(strings.Repeat("n", 127)) }), plain(func(f *api.Font) { f.Names = with("\xff") }), plain(func(f *api.Font) { f.Names = slices.Repeat([]string{"A"}, 256) }),
		plain(func(f *api.Font) { f.Maps = []api.Map{{Code: 255, S: "a"}} }), wide(func(f *api.Font) { f.Maps = []api.Map{{Code: 0, S: ""}, {Code: 65535, S: "a\U0001F600"}} }), wide(func(f *api.Font) { f.Maps = many(4096) }), plain(func(f *api.Font) { f.Maps = many(256) }),
		plain(func(f *api.Font) {
			f.First, f.Widths, f.Missing, f.Names, f.Maps = 32, widths(100), 250, with("uni00E9"), []api.Map{{Code: 7, S: "x"}}
		}),
		wide(func(f *api.Font) {
			f.First, f.Widths, f.Missing, f.Maps = 300, widths(100), 250, []api.Map{{Code: 7, S: "x"}, {Code: 300, S: "é"}}
		}),
	}
}

// many returns so many maps.
func many(size int) []api.Map {
	var l []api.Map
	for n := range size {
		l = append(l, api.Map{Code: n, S: "a"})
	}
	return l
}

// unsound returns fonts that are not valid, with their errors.
func unsound() []struct {
	f    api.Font
	want api.Errno
} {
	long := strings.Repeat("a", 257)
	return []struct {
		f    api.Font
		want api.Errno
	}{
		{api.Font{}, api.ErrArg}, {api.Font{Wide: true}, api.ErrArg}, {plain(func(f *api.Font) { f.Name = strings.Repeat("n", 128) }), api.ErrArg}, {plain(func(f *api.Font) { f.Name = "a\x00" }), api.ErrArg}, {wide(func(f *api.Font) { f.Name = "\x00" }), api.ErrArg},
		{plain(func(f *api.Font) { f.First = -1 }), api.ErrArg}, {plain(func(f *api.Font) { f.First = 257 }), api.ErrArg}, {plain(func(f *api.Font) { f.First = math.MaxInt }), api.ErrArg}, {plain(func(f *api.Font) { f.First, f.Widths = math.MaxInt, widths(5) }), api.ErrArg}, {plain(func(f *api.Font) { f.First, f.Widths = math.MinInt, widths(5) }), api.ErrArg}, {plain(func(f *api.Font) { f.First, f.Widths = -1, widths(5) }), api.ErrArg}, {plain(func(f *api.Font) { f.First, f.Widths = 256, widths(1) }), api.ErrArg}, {plain(func(f *api.Font) { f.First, f.Widths = 1, widths(256) }), api.ErrArg}, {plain(func(f *api.Font) { f.Widths = widths(257) }), api.ErrArg},
		{wide(func(f *api.Font) { f.First = 65537 }), api.ErrArg}, {wide(func(f *api.Font) { f.First, f.Widths = 65536, widths(1) }), api.ErrArg}, {wide(func(f *api.Font) { f.First, f.Widths = 61441, widths(4096) }), api.ErrArg}, {wide(func(f *api.Font) { f.Widths = widths(4097) }), api.ErrArg}, {wide(func(f *api.Font) { f.First = -1 }), api.ErrArg},
		{plain(func(f *api.Font) { f.Widths = []int64{1, -1} }), api.ErrArg}, {plain(func(f *api.Font) { f.Widths = []int64{100001, 1} }), api.ErrArg}, {wide(func(f *api.Font) { f.Widths = []int64{math.MaxInt64} }), api.ErrArg}, {plain(func(f *api.Font) { f.Missing = -1 }), api.ErrArg}, {wide(func(f *api.Font) { f.Missing = 100001 }), api.ErrArg}, {plain(func(f *api.Font) { f.Missing = math.MinInt64 }), api.ErrArg},
		{plain(func(f *api.Font) { f.Names = names(255) }), api.ErrArg}, {plain(func(f *api.Font) { f.Names = names(257) }), api.ErrArg}, {plain(func(f *api.Font) { f.Names = names(1) }), api.ErrArg}, {wide(func(f *api.Font) { f.Names = names(256) }), api.ErrArg}, {wide(func(f *api.Font) { f.Names = names(1) }), api.ErrArg}, {plain(func(f *api.Font) { f.Names = with(strings.Repeat("n", 128)) }), api.ErrArg}, {plain(func(f *api.Font) { f.Names = with("a\x00b") }), api.ErrArg},
		{plain(func(f *api.Font) { f.Maps = many(257) }), api.ErrRange}, {wide(func(f *api.Font) { f.Maps = many(4097) }), api.ErrMany}, {plain(func(f *api.Font) { f.Maps = []api.Map{{Code: 256}} }), api.ErrRange}, {wide(func(f *api.Font) { f.Maps = []api.Map{{Code: 65536}} }), api.ErrRange}, {plain(func(f *api.Font) { f.Maps = []api.Map{{Code: 1, S: "\xff"}} }), api.ErrForm}, {plain(func(f *api.Font) { f.Maps = []api.Map{{Code: 1, S: long}} }), api.ErrLong}, {plain(func(f *api.Font) { f.Maps = []api.Map{{Code: 1}, {Code: 1}} }), api.ErrTwice}, {plain(func(f *api.Font) { f.Maps = []api.Map{{Code: 2}, {Code: 1}} }), api.ErrArg},
		// What is wrong with the maps comes after all else.
		{api.Font{Maps: many(4097)}, api.ErrArg}, {plain(func(f *api.Font) { f.Names, f.Maps = with("\x00"), many(257) }), api.ErrArg}, {wide(func(f *api.Font) { f.Widths, f.Maps = []int64{-1}, []api.Map{{Code: 1, S: "\xff"}} }), api.ErrArg},
	}
}

// Promise 47.1.
func TestCheck(t *testing.T) {
	for i, f := range sounds() {
		if e := font.Check(f); e != api.OK {
			t.Errorf("Check of sound font %d = %d", i, e)
		}
	}
	for i, c := range unsound() {
		if e := font.Check(c.f); e != c.want {
			t.Errorf("Check of unsound font %d = %d, want %d", i, e, c.want)
		}
	}
}

// standard returns the standard names by their codes.
func standard() map[string]byte {
	list := map[string]byte{
		"space": ' ', "exclam": '!', "quotedbl": '"', "numbersign": '#', "dollar": '$', "percent": '%', "ampersand": '&', "quotesingle": '\'', "parenleft": '(', "parenright": ')', "asterisk": '*', "plus": '+', "comma": ',', "hyphen": '-', "period": '.', "slash": '/',
		"zero": '0', "one": '1', "two": '2', "three": '3', "four": '4', "five": '5', "six": '6', "seven": '7', "eight": '8', "nine": '9', "colon": ':', "semicolon": ';', "less": '<', "equal": '=', "greater": '>', "question": '?', "at": '@',
		"bracketleft": '[', "backslash": '\\', "bracketright": ']', "asciicircum": '^', "underscore": '_', "grave": '`', "braceleft": '{', "bar": '|', "braceright": '}', "asciitilde": '~',
	}
	for c := byte('A'); c <= 'Z'; c++ {
		list[string(rune(c))] = c
		list[string(rune(c+'a'-'A'))] = c + 'a' - 'A'
	}
	return list
}

// Promise 47.1.
func TestUsual(t *testing.T) {
	want := names(256)
	for name, code := range standard() {
		want[code] = name
	}
	if len(standard()) != 95 || !slices.Equal(font.Usual(), want) {
		t.Errorf("Usual = %q", font.Usual())
	}
	font.Usual()[65] = "B"
	if font.Usual()[65] != "A" {
		t.Error("Usual has a memory of its own")
	}
}

// Promise 47.1.
func TestSign(t *testing.T) {
	for name, code := range standard() {
		if s := font.Sign(name); s != string([]byte{code}) {
			t.Errorf("Sign(%q) = %q", name, s)
		}
	}
	for name, want := range map[string]string{
		"uni00E9": "\xC3\xA9", "uni0041": "A", "uni0001": "\x01", "uniFFFF": "\uFFFF", "uniFFFD": "\uFFFD", "uniABCD": "\uABCD", "uniD7FF": "\uD7FF", "uniE000": "\uE000", "uni0020": " ", "uni0100": "\u0100",
		"uni0000": "", "uniD800": "", "uniDABC": "", "uniDBFF": "", "uniDC00": "", "uniDFFF": "",
		"": "", "uni": "", "uni00e9": "", "uni00eE": "", "uniabcd": "", "uni00E": "", "uni00E90": "", "uni 0E9": "", "uni+0E9": "", "uni-041": "", "uni00G0": "", "uni0x41": "", "Uni0041": "", "uNi0041": "", "un0041": "", "u0041": "", "uniuni0041": "", "uni0041 ": "", "uni\u0660\u0660": "", "uni00é": "",
		"Space": "", "eacute": "", "AA": "", ".notdef": "", "spac": "", "spaces": "", " space": "", "space ": "", "space exclam": "", "a b": "", "bracket": "", "SPACE": "", "\x00": "", "é": "", "1": "", "~": "",
	} {
		if s := font.Sign(name); s != want {
			t.Errorf("Sign(%q) = %q, want %q", name, s, want)
		}
	}
	for n := range 1 << 16 {
		want := string(rune(n))
		if n == 0 || !utf8.ValidRune(rune(n)) {
			want = ""
		}
		if s := font.Sign(fmt.Sprintf("uni%04X", n)); s != want {
			t.Errorf("Sign of %04X = %q, want %q", n, s, want)
		}
	}
}

// Promise 47.2.
func TestWidth(t *testing.T) {
	f := api.Font{First: 65, Widths: []int64{5, 6, 7}, Missing: 9}
	far := api.Font{First: math.MaxInt, Widths: []int64{5, 6, 7}, Missing: 9}
	low := api.Font{First: math.MinInt, Widths: []int64{5, 6, 7}, Missing: 9}
	minus := api.Font{First: -3, Widths: []int64{5, 6, 7, 8}, Missing: -9}
	for _, c := range []struct {
		f    api.Font
		code int
		want int64
	}{
		{f, 64, 9}, {f, 65, 5}, {f, 66, 6}, {f, 67, 7}, {f, 68, 9}, {f, -65, 9}, {f, 0, 9}, {f, math.MaxInt, 9}, {f, math.MinInt, 9}, {f, math.MinInt + 65, 9}, {f, math.MinInt + 66, 9},
		{far, math.MaxInt, 5}, {far, math.MaxInt - 1, 9}, {far, math.MinInt, 9}, {far, math.MinInt + 1, 9}, {far, 0, 9}, {low, math.MinInt, 5}, {low, math.MinInt + 2, 7}, {low, math.MinInt + 3, 9}, {low, math.MaxInt, 9}, {low, 0, 9}, {minus, -3, 5}, {minus, 0, 8}, {minus, 1, -9}, {minus, -4, -9},
		{api.Font{}, 0, 0}, {api.Font{Missing: 3}, 7, 3}, {api.Font{First: 5, Wide: true, Widths: []int64{1}}, 5, 1},
	} {
		if n := font.Width(c.f, c.code); n != c.want {
			t.Errorf("Width(%v, %d) = %d, want %d", c.f, c.code, n, c.want)
		}
	}
}

// Promise 47.2.
func TestCodes(t *testing.T) {
	for _, c := range []struct {
		wide bool
		s    string
		want []int
		err  api.Errno
	}{
		{false, "", nil, api.OK}, {false, "A", []int{65}, api.OK}, {false, "A\x00\xff ", []int{65, 0, 255, 32}, api.OK}, {false, "é", []int{0xC3, 0xA9}, api.OK},
		{true, "", nil, api.OK}, {true, "\x00A", []int{65}, api.OK}, {true, "A\x00", []int{0x4100}, api.OK}, {true, "\xff\xff\x12\x34\x00\x00", []int{65535, 0x1234, 0}, api.OK}, {true, "A", nil, api.ErrForm}, {true, "ABC", nil, api.ErrForm},
	} {
		f := api.Font{Wide: c.wide, First: -1}
		if l, e := font.Codes(f, c.s); !slices.Equal(l, c.want) || e != c.err || e != api.OK && l != nil {
			t.Errorf("Codes(%v, %q) = %v, %d, want %v, %d", c.wide, c.s, l, e, c.want, c.err)
		}
	}
	long := strings.Repeat(sample.Bytes(), 300)
	if l, e := font.Codes(api.Font{}, long); len(l) != 76800 || l[76799] != 255 || e != api.OK {
		t.Errorf("Codes of a long string: %d, %d", len(l), e)
	}
}

// Promise 47.2.
func TestSay(t *testing.T) {
	named := with("uni00E9")
	named[65], named[66] = "B", "nothing"
	maps := []api.Map{{Code: 65, S: "x"}, {Code: 7, S: ""}, {Code: 65, S: "y"}, {Code: 300, S: "z"}, {Code: -1, S: "m"}}
	for i, c := range []struct {
		f    api.Font
		code int
		want string
	}{
		{api.Font{}, 65, "A"}, {api.Font{}, 32, " "}, {api.Font{}, 126, "~"}, {api.Font{}, 31, ""}, {api.Font{}, 127, ""}, {api.Font{}, 0, ""}, {api.Font{}, 255, ""}, {api.Font{}, 256, ""}, {api.Font{}, -1, ""}, {api.Font{}, 65 + 256, ""}, {api.Font{}, math.MaxInt, ""}, {api.Font{}, math.MinInt, ""}, {api.Font{}, 65 + 1<<32, ""},
		{api.Font{Names: named}, 65, "B"}, {api.Font{Names: named}, 66, ""}, {api.Font{Names: named}, 67, ""}, {api.Font{Names: named}, 7, "é"}, {api.Font{Names: named}, 255, ""}, {api.Font{Names: named}, 256, ""}, {api.Font{Names: named}, -1, ""}, {api.Font{Names: []string{"a"}}, 0, "a"}, {api.Font{Names: []string{"a"}}, 1, ""}, {api.Font{Names: []string{"a"}}, 65, ""}, {api.Font{Names: []string{"a"}}, math.MinInt, ""},
		{api.Font{Maps: maps}, 65, "x"}, {api.Font{Maps: maps}, 66, "B"}, {api.Font{Maps: maps}, 7, ""}, {api.Font{Maps: maps}, 300, "z"}, {api.Font{Maps: maps}, -1, "m"}, {api.Font{Maps: maps, Names: named}, 65, "x"}, {api.Font{Maps: maps, Names: named}, 7, ""}, {api.Font{Maps: maps[:1], Names: named}, 7, "é"},
		{api.Font{Wide: true}, 65, ""}, {api.Font{Wide: true, Names: named}, 65, ""}, {api.Font{Wide: true, Maps: maps}, 65, "x"}, {api.Font{Wide: true, Maps: maps}, 66, ""}, {api.Font{Wide: true, Maps: maps}, 300, "z"},
	} {
		if s := font.Say(c.f, c.code); s != c.want {
			t.Errorf("Say %d of %d = %q, want %q", i, c.code, s, c.want)
		}
	}
	for code := range 300 {
		want := ""
		if code < 256 {
			want = font.Sign(font.Usual()[code])
		}
		if s := font.Say(api.Font{}, code); s != want {
			t.Errorf("Say of %d = %q, want %q", code, s, want)
		}
	}
}

// Promise 47.5: Width and Say accept every code that Codes returns.
func TestEveryCode(t *testing.T) {
	for _, f := range sounds() {
		l, e := font.Codes(f, sample.Bytes())
		for _, code := range l {
			if n := font.Width(f, code); n < 0 || n > 100000 || !utf8.ValidString(font.Say(f, code)) {
				t.Errorf("Width of %d = %d", code, n)
			}
		}
		if len(l) < 128 || e != api.OK {
			t.Errorf("%d codes, %d", len(l), e)
		}
	}
}
