package search_test

import (
	"fmt"
	"math"
	"slices"
	"strings"
	"testing"
	"time"

	"foliant/api"
	"foliant/catalog"
	"foliant/docs"
	"foliant/draw"
	"foliant/order"
	"foliant/pages"
	"foliant/sample"
	"foliant/search"
	"foliant/value"
)

// brief shows the beginning of anything.
func brief(x any) string { return fmt.Sprintf("%.700s", fmt.Sprintf("%q", fmt.Sprint(x))) }

// box returns the box of the word with an index in a line.
func box(i int) api.Rect {
	n := int64(i)
	return api.Rect{X0: 10*n - 7, Y0: -n, X1: 10*n + 5, Y1: 3 + n}
}

// around returns the smallest rectangle that contains boxes.
func around(l ...api.Rect) api.Rect {
	if len(l) == 0 {
		return api.Rect{}
	}
	all := l[0]
	for _, r := range l {
		all = api.Rect{X0: min(all.X0, r.X0), Y0: min(all.Y0, r.Y0), X1: max(all.X1, r.X1), Y1: max(all.Y1, r.Y1)}
	}
	return all
}

// line returns the line of words.
func line(words ...string) api.Line {
	var l api.Line
	for i, s := range words {
		l.Words = append(l.Words, api.Word{S: s, Box: box(i)})
	}
	return l
}

// hit returns a hit in the words from first to last.
func hit(n, from, to, first, last int) search.Hit {
	var boxes []api.Rect
	for i := first; i <= last; i++ {
		boxes = append(boxes, box(i))
	}
	return search.Hit{Line: n, From: from, To: to, Box: around(boxes...)}
}

// Promise 51.1, by the example of the chapter.
func TestExample(t *testing.T) {
	want := []search.Hit{hit(0, 0, 2, 0, 0), hit(0, 4, 6, 1, 1)}
	if got := search.In([]api.Line{line("Ab", "xab")}, "aB"); !slices.Equal(got, want) {
		t.Errorf("the hits are %v, want %v", got, want)
	}
}

// Promise 51.1: hits.
func TestIn(t *testing.T) {
	long := strings.Repeat("a", api.MaxText)
	for _, c := range []struct {
		l    []api.Line
		s    string
		want []search.Hit
	}{
		{nil, "a", nil}, {[]api.Line{{}}, "a", nil}, {[]api.Line{line("a")}, "b", nil}, {[]api.Line{line("a")}, "", nil}, {[]api.Line{line("a")}, "aa", nil}, {[]api.Line{line("a"), line("a")}, "aa", nil},
		{[]api.Line{line("b"), {}, line("xa", "A")}, "a", []search.Hit{hit(2, 1, 2, 0, 0), hit(2, 3, 4, 1, 1)}},
		// Hits do not overlap, and the first one counts.
		{[]api.Line{line("aaaaa")}, "aA", []search.Hit{hit(0, 0, 2, 0, 0), hit(0, 2, 4, 0, 0)}}, {[]api.Line{line("abababa")}, "aba", []search.Hit{hit(0, 0, 3, 0, 0), hit(0, 4, 7, 0, 0)}}, {[]api.Line{line("xabab")}, "ab", []search.Hit{hit(0, 1, 3, 0, 0), hit(0, 3, 5, 0, 0)}}, {[]api.Line{line("a", "a", "a")}, "a a", []search.Hit{hit(0, 0, 3, 0, 1)}},
		// Only ASCII letters match whatever their case is.
		{[]api.Line{line("aZ[{@`")}, "AZ[{@`", []search.Hit{hit(0, 0, 6, 0, 0)}}, {[]api.Line{line("[")}, "{", nil}, {[]api.Line{line("@")}, "`", nil}, {[]api.Line{line("Z")}, "z", []search.Hit{hit(0, 0, 1, 0, 0)}}, {[]api.Line{line("É")}, "é", nil}, {[]api.Line{line("É")}, "É", []search.Hit{hit(0, 0, 2, 0, 0)}}, {[]api.Line{line("É")}, "\x89", []search.Hit{hit(0, 1, 2, 0, 0)}}, {[]api.Line{line("\u212a")}, "k", nil}, {[]api.Line{line("\xff\x00")}, "\xff\x00", []search.Hit{hit(0, 0, 2, 0, 0)}}, {[]api.Line{line("\xc1")}, "\xe1", nil},
		// The words that contribute a byte.
		{[]api.Line{line("ab", "cd", "ef")}, "b cd e", []search.Hit{hit(0, 1, 7, 0, 2)}}, {[]api.Line{line("ab", "cd", "ef")}, "b c", []search.Hit{hit(0, 1, 4, 0, 1)}}, {[]api.Line{line("ab", "cd", "ef")}, " cd ", []search.Hit{hit(0, 2, 6, 1, 1)}}, {[]api.Line{line("ab", "cd", "ef")}, "b ", []search.Hit{hit(0, 1, 3, 0, 0)}}, {[]api.Line{line("ab", "cd", "ef")}, " e", []search.Hit{hit(0, 5, 7, 2, 2)}},
		{[]api.Line{line("ab", "cd", "ef")}, " ", []search.Hit{{From: 2, To: 3}, {From: 5, To: 6}}}, {[]api.Line{line("", "", "", "")}, " ", []search.Hit{{From: 0, To: 1}, {From: 1, To: 2}, {From: 2, To: 3}}}, {[]api.Line{line("a", "", "b")}, "a  b", []search.Hit{{From: 0, To: 4, Box: around(box(0), box(2))}}}, {[]api.Line{line("a", "", "", "b")}, "  ", []search.Hit{{From: 1, To: 3}}}, {[]api.Line{line("a", "", "b", "a", "", "b")}, " b", []search.Hit{hit(0, 2, 4, 2, 2), hit(0, 7, 9, 5, 5)}},
		{[]api.Line{line("a b", "c")}, "b c", []search.Hit{hit(0, 2, 5, 0, 1)}}, {[]api.Line{line("a b")}, " ", []search.Hit{hit(0, 1, 2, 0, 0)}},
		// The longest string.
		{[]api.Line{line(long)}, long, []search.Hit{hit(0, 0, api.MaxText, 0, 0)}}, {[]api.Line{line(long + "a")}, long + "a", nil}, {[]api.Line{line("b"+long[1:], long)}, long, []search.Hit{hit(0, api.MaxText+1, 2*api.MaxText+1, 1, 1)}},
	} {
		was := fmt.Sprint(c.l)
		got := search.In(c.l, c.s)
		if !slices.Equal(got, c.want) {
			t.Errorf("In(%s, %s) = %v, want %v", brief(c.l), brief(c.s), got, c.want)
		}
		if fmt.Sprint(c.l) != was {
			t.Errorf("the lines were changed: %s", brief(was))
		}
	}
}

// model finds hits by the words of the chapter.
func model(l []api.Line, s string) []search.Hit {
	lower := func(c byte) byte {
		if c >= 65 && c <= 90 {
			return c + 32
		}
		return c
	}
	matches := func(a, b string) bool {
		for i := range len(a) {
			if lower(a[i]) != lower(b[i]) {
				return false
			}
		}
		return true
	}
	var hits []search.Hit
	for n, line := range l {
		text, owner := "", []int{}
		for i, w := range line.Words {
			if i > 0 {
				text, owner = text+" ", append(owner, -1)
			}
			text, owner = text+w.S, append(owner, slices.Repeat([]int{i}, len(w.S))...)
		}
		for at := 0; at+len(s) <= len(text); at++ {
			if !matches(text[at:at+len(s)], s) {
				continue
			}
			var boxes []api.Rect
			for _, i := range owner[at : at+len(s)] {
				if i >= 0 {
					boxes = append(boxes, line.Words[i].Box)
				}
			}
			hits = append(hits, search.Hit{Line: n, From: at, To: at + len(s), Box: around(boxes...)})
			at += len(s) - 1
		}
	}
	return hits
}

// mixer makes choices that look irregular and are always the same.
type mixer uint32

// pick chooses a number from 0 to below, not included.
func (x *mixer) pick(below int) int {
	*x = *x*1664525 + 1013904223
	return int(*x>>8) % below
}

// word returns some letters and spaces.
func (x *mixer) word(most int) string {
	s := ""
	for range x.pick(most + 1) {
		s += string("aAabB b"[x.pick(7)])
	}
	return s
}

// Promises 51.1 and 51.3, by the words of the chapter.
func TestInByTheWords(t *testing.T) {
	x, hits, spread := mixer(51), 0, 0
	for range 20000 {
		var l []api.Line
		for range x.pick(4) {
			var words []string
			for range x.pick(6) {
				words = append(words, x.word(5))
			}
			l = append(l, line(words...))
		}
		s := x.word(3) + "a"
		switch x.pick(3) {
		case 0:
			s = x.word(2) + " "
		case 1:
			s = "a " + x.word(2)
		}
		want := model(l, s)
		if got := search.In(l, s); !slices.Equal(got, want) {
			t.Fatalf("In(%v, %q) = %v, want %v", l, s, got, want)
		}
		hits += len(want)
		for _, h := range want {
			if h.Box.X1-h.Box.X0 > 12 {
				spread++
			}
		}
	}
	if hits < 20000 || spread < 800 {
		t.Errorf("%d hits, of which %d are in several words", hits, spread)
	}
}

// Promises 51.1 and 51.2, by the words of the chapter.
func TestPagesByTheWords(t *testing.T) {
	errs, found := map[api.Errno]int{}, 0
	for _, d := range slices.Concat(sample.Scenes(), sample.Trees()[:150], sample.Webs()[:20], sample.Docs()[:3]) {
		was := sample.Copy(d)
		n, wantErr := pages.Count(d)
		text := ""
		var hits []search.Hit
		for at := range n {
			shown, e := draw.Page(d, at)
			lines, pageErr := search.Page(d, at)
			if pageErr != e || e == api.OK && !order.Same(lines, order.Lines(shown.Glyphs)) || e != api.OK && len(lines) > 0 {
				t.Fatalf("Page(%s, %d) = %v, %d, but draw.Page has the error %d", brief(d), at, lines, pageErr, e)
			}
			if wantErr != api.OK {
				continue
			}
			wantErr = e
			if at > 0 {
				text += "\x0c"
			}
			text += order.Text(lines)
			for _, h := range model(lines, "a") {
				h.Page = at
				hits = append(hits, h)
			}
		}
		if wantErr != api.OK {
			text, hits = "", nil
		}
		if got, e := search.Text(d); got != text || e != wantErr {
			t.Fatalf("Text(%s) = %q, %d, want %q, %d", brief(d), got, e, text, wantErr)
		}
		if got, e := search.All(d, "A"); !slices.Equal(got, hits) || e != wantErr {
			t.Fatalf("All(%s) = %v, %d, want %v, %d", brief(d), got, e, hits, wantErr)
		}
		if lines, e := search.Page(d, n); len(lines) > 0 || e == api.OK {
			t.Errorf("Page(%s, %d) = %v, %d", brief(d), n, lines, e)
		}
		if !docs.Same(d, was) {
			t.Fatalf("the document has changed: %s", brief(was))
		}
		errs[wantErr]++
		found += len(hits)
	}
	if errs[api.OK] < 500 || errs[api.ErrPage] < 10 || errs[api.ErrState] < 10 || errs[api.ErrOp] < 5 || found < 1000 {
		t.Errorf("the errors are %v, and %d hits were found", errs, found)
	}
}

// book returns a document with a page for each content, all of which have a font F whose widths are 500.
func book(contents ...string) api.Doc {
	d, _ := catalog.New(len(contents))
	font := sample.Dict("BaseFont FirstChar Subtype Widths", value.Name("N"), value.Int(32), value.Name("Type1"), value.Array(slices.Repeat([]api.Object{value.Int(500)}, 95)...))
	d.Items[1].Obj, _ = value.Set(d.Items[1].Obj, "Resources", sample.Dict("Font", sample.Dict("F", font)))
	for i, s := range contents {
		num := len(d.Items) + 1
		d.Items = append(d.Items, api.Item{Num: num, Obj: api.Object{Kind: api.KStream, S: s}})
		d.Items[2+i].Obj, _ = value.Set(d.Items[2+i].Obj, "Contents", sample.Ref(num, 0))
	}
	return d
}

// Promises 51.1 and 51.2: pages.
func TestPages(t *testing.T) {
	d := book("BT /F 10 Tf 10 TL 0 50 Td (one two) Tj (three Two) ' ET", "", "BT /F 10 Tf (tWo) Tj ET")
	unit := int64(api.One)
	at := func(x, y, chars int64) api.Rect {
		return api.Rect{X0: x * 5 * unit, Y0: y * unit, X1: (x + chars) * 5 * unit, Y1: (y + 10) * unit}
	}
	want := []search.Hit{{Page: 0, Line: 0, From: 4, To: 7, Box: at(4, 50, 3)}, {Page: 0, Line: 1, From: 6, To: 9, Box: at(6, 40, 3)}, {Page: 2, Line: 0, From: 0, To: 3, Box: at(0, 0, 3)}}
	if got, e := search.All(d, "two"); !slices.Equal(got, want) || e != api.OK {
		t.Errorf("All = %v, %d, want %v", got, e, want)
	}
	if s, e := search.Text(d); s != "one two\nthree Two\n\x0c\x0ctWo\n" || e != api.OK {
		t.Errorf("Text = %q, %d", s, e)
	}
	if l, e := search.Page(d, 0); order.Text(l) != "one two\nthree Two\n" || e != api.OK {
		t.Errorf("Page = %v, %d", l, e)
	}
	if s, e := search.Text(book()); s != "" || e != api.OK {
		t.Errorf("Text of no pages = %q, %d", s, e)
	}
	if l, e := search.All(book(), "a"); len(l) > 0 || e != api.OK {
		t.Errorf("All of no pages = %v, %d", l, e)
	}
}

// Promise 51.2: errors, in their order.
func TestErrors(t *testing.T) {
	long := strings.Repeat("a", api.MaxText+1)
	good, wrong, both := book("", ""), book("", "BT", "x"), book("x", "BT")
	lost := book("x")
	lost.Items[2].Obj = value.Drop(lost.Items[2].Obj, "MediaBox")
	broken := book("x")
	broken.Items[1].Obj = value.Drop(broken.Items[1].Obj, "Kids")
	for i, c := range []struct {
		d       api.Doc
		s       string
		want    api.Errno
		textErr api.Errno
	}{
		{good, "", api.ErrArg, api.OK}, {good, long, api.ErrLong, api.OK}, {good, long[1:], api.OK, api.OK}, {wrong, "", api.ErrArg, api.ErrState}, {wrong, long, api.ErrLong, api.ErrState}, {wrong, "a", api.ErrState, api.ErrState}, {both, "a", api.ErrOp, api.ErrOp}, {lost, "", api.ErrArg, api.ErrPage}, {lost, "a", api.ErrPage, api.ErrPage}, {broken, "", api.ErrPage, api.ErrPage}, {broken, long, api.ErrPage, api.ErrPage}, {broken, "a", api.ErrPage, api.ErrPage},
	} {
		if l, e := search.All(c.d, c.s); len(l) > 0 || e != c.want {
			t.Errorf("All %d = %v, %d, want %d", i, l, e, c.want)
		}
		if s, e := search.Text(c.d); s != "" && c.textErr != api.OK || e != c.textErr {
			t.Errorf("Text %d = %q, %d, want %d", i, s, e, c.textErr)
		}
	}
	for i, b := range sample.BadDocs() {
		for _, s := range []string{"", "a", long} {
			if l, e := search.All(b.Is, s); len(l) > 0 || e != b.Err {
				t.Errorf("All of bad document %d = %v, %d, want %d", i, l, e, b.Err)
			}
		}
		if s, e := search.Text(b.Is); s != "" || e != b.Err {
			t.Errorf("Text of bad document %d = %q, %d, want %d", i, s, e, b.Err)
		}
		if l, e := search.Page(b.Is, 0); len(l) > 0 || e != b.Err {
			t.Errorf("Page of bad document %d = %v, %d, want %d", i, l, e, b.Err)
		}
	}
	for _, n := range []int{-1, 2, math.MaxInt, math.MinInt} {
		if l, e := search.Page(good, n); len(l) > 0 || e != api.ErrNone {
			t.Errorf("Page %d = %v, %d", n, l, e)
		}
	}
	if l, e := search.Page(wrong, 1); len(l) > 0 || e != api.ErrState {
		t.Errorf("Page of a wrong one = %v, %d", l, e)
	}
}

// P5: long lines, and many pages.
func TestTakesNoLonger(t *testing.T) {
	begin := time.Now()
	var words []string
	for range api.MaxGlyphs {
		words = append(words, strings.Repeat("a", 60))
	}
	l := []api.Line{line(words...)}
	for _, c := range []struct {
		s    string
		want int
	}{
		{"a", 60 * api.MaxGlyphs}, {" ", api.MaxGlyphs - 1}, {"a a", api.MaxGlyphs - 1}, {strings.Repeat("a", 61), 0}, {strings.Repeat("a", 59) + "b", 0}, {strings.Repeat(strings.Repeat("a", 60)+" ", 65) + "b", 0}, {strings.Repeat("a", api.MaxText), 0}, {strings.Repeat(" ", api.MaxText), 0},
	} {
		if got := len(search.In(l, c.s)); got != c.want {
			t.Errorf("%d hits of %s, want %d", got, brief(c.s), c.want)
		}
	}
	contents := slices.Repeat([]string{"BT /F 10 Tf (ab) Tj ET"}, api.MaxPages)
	if hits, e := search.All(book(contents...), "B"); len(hits) != api.MaxPages || hits[api.MaxPages-1].Page != api.MaxPages-1 || e != api.OK {
		t.Errorf("%d hits, %d", len(hits), e)
	}
	if s, e := search.Text(book(contents...)); s != strings.Repeat("ab\n\x0c", api.MaxPages-1)+"ab\n" || e != api.OK {
		t.Errorf("Text = %s, %d", brief(s), e)
	}
	if time.Since(begin) > 10*time.Second {
		t.Errorf("it took %v", time.Since(begin))
	}
}
