package draw_test

import (
	"fmt"
	"math"
	"slices"
	"strings"
	"testing"
	"time"

	"foliant/api"
	"foliant/catalog"
	"foliant/docs"
	"foliant/draw"
	"foliant/matrix"
	"foliant/sample"
	"foliant/value"
)

// brief shows the beginning of anything.
func brief(x any) string { return fmt.Sprintf("%.700s", fmt.Sprintf("%q", fmt.Sprint(x))) }

// ref returns a reference of generation 0.
func ref(num int) api.Object { return sample.Ref(num, 0) }

// item returns an item of generation 0.
func item(num int, o api.Object) api.Item { return api.Item{Num: num, Obj: o} }

// entries are those of a dictionary.
type entries map[string]api.Object

// dict returns the dictionary of entries, without those that are null.
func dict(e entries) api.Object { return sample.Entries(e) }

// stream returns a stream with entries, without those that are null.
func stream(data string, e entries) api.Object {
	o := dict(e)
	o.Kind, o.S = api.KStream, data
	return o
}

// form returns a form with a content and more entries.
func form(content string, more entries) api.Object {
	all := entries{"Subtype": value.Name("Form")}
	for key, o := range more {
		all[key] = o
	}
	return stream(content, all)
}

// ints returns the array of integers.
func ints(list ...int64) api.Object {
	o := sample.Array()
	for _, n := range list {
		o.Kids = append(o.Kids, value.Int(n))
	}
	return o
}

// plainFont returns the font of the examples, whose widths are 500 from code 65 on.
func plainFont() api.Object {
	return dict(entries{"Type": value.Name("Font"), "Subtype": value.Name("Type1"), "BaseFont": value.Name("N"), "FirstChar": value.Int(65), "Widths": ints(500, 500, 500, 500)})
}

// resources returns resources with the font F, the item 4, and the XObjects X5 and following ones, the items 5 and so on.
func resources(objects int) api.Object {
	all := entries{}
	for num := 5; num < 5+objects; num++ {
		all[fmt.Sprint("X", num)] = ref(num)
	}
	return dict(entries{"Font": dict(entries{"F": ref(4)}), "XObject": dict(all)})
}

// scene returns a document with one page, the item 3, which has a content and resources for the XObjects, the items from number 5 on.
func scene(content string, objects ...api.Object) api.Doc {
	page := dict(entries{"Type": value.Name("Page"), "MediaBox": ints(0, 0, 100, 100), "Contents": ref(100), "Resources": resources(len(objects))})
	d := sample.Doc(1, item(1, dict(entries{"Pages": ref(2)})), item(2, dict(entries{"Type": value.Name("Pages"), "Kids": sample.Array(ref(3))})), item(3, page), item(4, plainFont()))
	for i, o := range objects {
		d.Items = append(d.Items, item(5+i, o))
	}
	d.Items = append(d.Items, item(100, stream(content, nil)))
	return d
}

// at returns a point in whole units of space.
func at(x, y int64) api.Point { return api.Point{X: x * api.One, Y: y * api.One} }

// glyph returns a glyph of the font F that is 5 wide and 10 high.
func glyph(s string, x, y int64) api.Glyph {
	return api.Glyph{Code: int(s[0]), S: s, From: at(x, y), To: at(x+5, y), High: 10 * api.One, Font: "F"}
}

// shows checks what a page with a content shows, and how many operators it takes.
func shows(t *testing.T, d api.Doc, want api.Shown, steps int) {
	t.Helper()
	got, e := draw.Page(d, 0)
	if !draw.Same(got, want) || e != api.OK {
		t.Errorf("%s shows %s, %d, want %s", brief(d.Items[len(d.Items)-1].Obj.S), brief(got), e, brief(want))
	}
	if n, e := draw.Steps(d, 0); n != steps || e != api.OK {
		t.Errorf("%s has %d steps, %d, want %d", brief(d.Items[len(d.Items)-1].Obj.S), n, e, steps)
	}
}

// fails checks that a page has an error.
func fails(t *testing.T, d api.Doc, want api.Errno) {
	t.Helper()
	if got, e := draw.Page(d, 0); len(got.Glyphs) > 0 || len(got.Paints) > 0 || e != want {
		t.Errorf("%s shows %s, %d, want %d", brief(d.Items[len(d.Items)-1].Obj.S), brief(got), e, want)
	}
	if n, e := draw.Steps(d, 0); n != 0 || e != want {
		t.Errorf("%s has %d steps, %d, want %d", brief(d.Items[len(d.Items)-1].Obj.S), n, e, want)
	}
}

// Promise 49.1, by the examples of the chapter and of the whole.
func TestExamples(t *testing.T) {
	shows(t, scene("BT /F 10 Tf 1 0 0 1 5 6 Tm (A) Tj ET"), api.Shown{Glyphs: []api.Glyph{glyph("A", 5, 6)}}, 5)
	shows(t, scene("BT /F 10 Tf 1 0 0 1 5 6 Tm (AB) Tj ET"), api.Shown{Glyphs: []api.Glyph{glyph("A", 5, 6), glyph("B", 10, 6)}}, 5)
	shows(t, scene("1 0 0 1 100 0 cm BT /F 10 Tf 1 0 0 1 5 6 Tm (AB) Tj ET"), api.Shown{Glyphs: []api.Glyph{glyph("A", 105, 6), glyph("B", 110, 6)}}, 6)
	shows(t, scene(""), api.Shown{}, 0)
}

// glyphs returns glyphs for as many letters, at coordinates that alternate.
func glyphs(s string, coordinates ...int64) api.Shown {
	var shown api.Shown
	for i := range s {
		shown.Glyphs = append(shown.Glyphs, glyph(s[i:i+1], coordinates[2*i], coordinates[2*i+1]))
	}
	return shown
}

// Promise 49.1: text, which several operators say.
func TestText(t *testing.T) {
	const begin = "BT /F 10 Tf "
	for _, c := range []struct {
		content string
		want    api.Shown
		steps   int
	}{
		{begin + "3 4 Td (A) Tj 7 8 Td (B) Tj ET", glyphs("AB", 3, 4, 10, 12), 7},
		{begin + "12 TL 3 40 Td (A) Tj T* (B) Tj (C) ' ET", glyphs("ABC", 3, 40, 3, 28, 3, 16), 9},
		{begin + "99 TL 3 40 TD (A) Tj 1 -7 TD (B) Tj T* (C) Tj ET", glyphs("ABC", 3, 40, 4, 33, 4, 26), 10},
		{begin + "[(A) -1000 (B) 500 (C)] TJ ET", glyphs("ABC", 0, 0, 15, 0, 15, 0), 4},
		{begin + "5 TL 1 2 (AB) \" (C) Tj ET", glyphs("ABC", 0, -5, 7, -5, 14, -5), 6},
		{begin + "5 TL 1 2 (A) \" ET BT (AB) Tj ET", glyphs("AAB", 0, -5, 0, 0, 7, 0), 8},
		{"/F 10 Tf 4 Tc BT (AB) Tj ET", glyphs("AB", 0, 0, 9, 0), 5},
		{begin + "ET (A) Tw", api.Shown{}, 0},
		{begin + "() Tj [] TJ () ' 0 0 () \" ET", api.Shown{}, 7},
		{begin + "q 20 Tf Q (A) Tj ET", api.Shown{}, 0},
		{begin + "q /F 20 Tf Q (A) Tj ET", glyphs("A", 0, 0), 7},
		{"q " + begin + "ET Q /F 10 Tf BT 5 5 Td ET BT (A) Tj ET", glyphs("A", 0, 0), 12},
		{begin + "(A) Tj 1 0 0 1 50 0 cm (A) Tj ET", glyphs("AA", 0, 0, 55, 0), 6},
	} {
		if c.steps == 0 {
			fails(t, scene(c.content), api.ErrOp)
		} else {
			shows(t, scene(c.content), c.want, c.steps)
		}
	}
}

// square returns the segments of a rectangle.
func square(x0, y0, x1, y1 int64) []api.Seg {
	return []api.Seg{{Kind: api.SegMove, R: at(x0, y0)}, {Kind: api.SegLine, R: at(x1, y0)}, {Kind: api.SegLine, R: at(x1, y1)}, {Kind: api.SegLine, R: at(x0, y1)}, {Kind: api.SegClose}}
}

// Promise 49.1: paths and images.
func TestPaints(t *testing.T) {
	red, gray := api.Color{Space: api.SpaceRGB, A: api.One}, api.Color{A: 5000}
	image := stream("data", entries{"Subtype": value.Name("Image")})
	paints := func(list ...api.Paint) api.Shown { return api.Shown{Paints: list} }
	for _, c := range []struct {
		content string
		want    api.Shown
		steps   int
	}{
		{"1 2 3 4 re f", paints(api.Paint{How: api.PaintFill, Segs: square(1, 2, 4, 6)}), 2},
		{"1 0 0 rg 0.5 G 1 2 3 4 re B*", paints(api.Paint{How: 7, Segs: square(1, 2, 4, 6), Fill: red, Stroke: gray}), 4},
		{"1 2 3 4 re W n n S", paints(api.Paint{How: api.PaintClip, Segs: square(1, 2, 4, 6)}), 5},
		{"1 2 3 4 re n f b", api.Shown{}, 4},
		{"1 2 m 3 4 l 1 0 0 1 10 20 cm 5 6 l s", paints(api.Paint{How: api.PaintStroke, Segs: []api.Seg{{Kind: api.SegMove, R: at(1, 2)}, {Kind: api.SegLine, R: at(3, 4)}, {Kind: api.SegLine, R: at(15, 26)}, {Kind: api.SegClose}}}), 5},
		{"q 1 0 0 RG 2 0 0 3 10 20 cm /X5 Do Q 0.5 g BI /W 1 ID x EI", paints(api.Paint{How: api.PaintImage, Segs: square(10, 20, 12, 23), Stroke: red}, api.Paint{How: api.PaintImage, Segs: square(0, 0, 1, 1), Fill: gray}), 7},
		{"1 2 m BT /X6 gs BI ID x EI ET 3 4 l S", paints(api.Paint{How: api.PaintImage, Segs: square(0, 0, 1, 1)}, api.Paint{How: api.PaintStroke, Segs: []api.Seg{{Kind: api.SegMove, R: at(1, 2)}, {Kind: api.SegLine, R: at(3, 4)}}}), 7},
		{"/P BMC /P 1 BDC /P MP /P /Q DP EMC EMC BX EX /C cs /C CS /S sh 1 2 d0 1 2 3 4 5 6 d1 1 i /R ri /G gs", api.Shown{}, 16},
		{"1 2 m", api.Shown{}, 1},
	} {
		shows(t, scene(c.content, image), c.want, c.steps)
	}
}

// Promise 49.1: the first error of a content, told in the order of the operators.
func TestContentErrors(t *testing.T) {
	for _, c := range []struct {
		content string
		want    api.Errno
	}{
		{"1 2", api.ErrEnd}, {"x ( ", api.ErrEnd}, {"q Q R", api.ErrForm}, {"Q EI", api.ErrForm}, {"Q ", api.ErrState}, {"x", api.ErrOp}, {"x Q", api.ErrOp}, {"Q x", api.ErrState},
		{"w", api.ErrOp}, {"-1 w", api.ErrRange}, {"3 J", api.ErrRange}, {"999999 w", api.ErrRange}, {"999999 g", api.ErrRange}, {"q Q Q", api.ErrState}, {"[/A] 0 d", api.ErrOp},
		{strings.Repeat("q ", 28) + strings.Repeat("Q ", 28) + "x", api.ErrOp}, {strings.Repeat("q ", 29), api.ErrMany}, {"99999 0 0 99999 0 0 cm 99999 0 0 99999 0 0 cm", api.ErrRange},
		{"1 2 l", api.ErrState}, {"W", api.ErrState}, {"h", api.ErrState}, {"1 2 m n h", api.ErrState}, {"999999 0 m", api.ErrRange}, {"1 m", api.ErrOp}, {"1 f", api.ErrOp},
		{"BT", api.ErrState}, {"BT ET BT", api.ErrState}, {"ET", api.ErrState}, {"BT BT", api.ErrState}, {"1 1 Td", api.ErrState}, {"T*", api.ErrState}, {"1 0 0 1 0 0 Tm", api.ErrState},
		{"BT (A) Tj", api.ErrFont}, {"(A) Tj", api.ErrFont}, {"/F 1 Tf (A) Tj", api.ErrState}, {"/F 1 Tf [] TJ", api.ErrState}, {"/F 1 Tf () '", api.ErrState}, {"/F 1 Tf 1 2 () \"", api.ErrState}, {"/G 1 Tf BT () Tj", api.ErrFont}, {"BT [/A] TJ", api.ErrFont}, {"/F 1 Tf BT [/A] TJ", api.ErrOp},
		// TD sets the leading first, which needs its second number only.
		{"1 999999 TD", api.ErrRange}, {"999999 1 TD", api.ErrState}, {"1 1 TD", api.ErrState}, {"BT 999999 1 TD", api.ErrRange},
		// The operator with the sign of inches sets the spacings first, and then needs a font.
		{"999999 1 (A) \"", api.ErrRange}, {"1 999999 (A) \"", api.ErrRange}, {"1 1 (A) \"", api.ErrFont},
		{"/F 99999 Tf 100000 0 0 1 0 0 cm BT (A) Tj", api.ErrRange}, {"99999 0 0 99999 99999 0 cm BI ID x EI", api.ErrRange}, {"/X9 Do", api.ErrNone}, {"BT /X9 Do", api.ErrState}, {"/X9 1 Do", api.ErrOp}, {"/X5 Do x", api.ErrOp}, {"x /X9 Do", api.ErrOp},
	} {
		d := scene(c.content, form("q", nil))
		fails(t, d, c.want)
		if got, e := draw.Run(d, resources(1), c.content, matrix.One()); len(got.Glyphs) > 0 || len(got.Paints) > 0 || e != c.want {
			t.Errorf("Run(%s) = %s, %d, want %d", brief(c.content), brief(got), e, c.want)
		}
	}
}

// Promise 49.1: what is wrong with the arguments of Run, in the order in which it is told.
func TestRunErrors(t *testing.T) {
	good, res, one := scene(""), sample.Dict(""), matrix.One()
	long, wrong := strings.Repeat(" ", api.MaxData+1), api.Matrix{A: api.MaxFix + 1}
	stray := value.Name("R")
	for i, b := range sample.BadDocs() {
		if got, e := draw.Run(b.Is, api.Object{Kind: 10}, long, wrong); len(got.Glyphs) > 0 || e != b.Err {
			t.Errorf("Run in bad document %d = %v, %d, want %d", i, got, e, b.Err)
		}
		if got, e := draw.Page(b.Is, 0); len(got.Glyphs) > 0 || e != b.Err {
			t.Errorf("Page of bad document %d = %v, %d, want %d", i, got, e, b.Err)
		}
		if n, e := draw.Steps(b.Is, 0); n != 0 || e != b.Err {
			t.Errorf("Steps of bad document %d = %d, %d, want %d", i, n, e, b.Err)
		}
	}
	for i, b := range sample.BadObjects() {
		if got, e := draw.Run(good, b.Is, long, wrong); len(got.Glyphs) > 0 || e != b.Err {
			t.Errorf("Run with bad object %d = %v, %d, want %d", i, got, e, b.Err)
		}
	}
	for i, c := range []struct {
		res     api.Object
		content string
		m       api.Matrix
		want    api.Errno
	}{
		{stray, long, wrong, api.ErrKind}, {value.Null(), "", one, api.ErrKind}, {ref(99), "", one, api.ErrKind}, {sample.Array(), "", one, api.ErrKind}, {ref(100), "", one, api.ErrKind}, {stream("", nil), "", one, api.ErrKind}, {ref(4), "q", one, api.OK}, {sample.Ref(4, 1), "q", one, api.ErrKind},
		{res, long, wrong, api.ErrLong}, {res, long, one, api.ErrLong}, {res, long[1:], one, api.OK}, {res, "(", wrong, api.ErrRange}, {res, "(", api.Matrix{F: math.MinInt64}, api.ErrRange}, {res, "(", api.Matrix{F: -api.MaxFix}, api.ErrEnd}, {res, "", api.Matrix{}, api.OK}, {res, "q", one, api.OK},
	} {
		if got, e := draw.Run(good, c.res, c.content, c.m); len(got.Glyphs) > 0 || len(got.Paints) > 0 || e != c.want {
			t.Errorf("Run %d = %v, %d, want %d", i, got, e, c.want)
		}
	}
	for _, n := range []int{-1, 1, math.MaxInt, math.MinInt} {
		if _, e := draw.Page(good, n); e != api.ErrNone {
			t.Errorf("Page %d = %d", n, e)
		}
		if _, e := draw.Steps(good, n); e != api.ErrNone {
			t.Errorf("Steps of page %d = %d", n, e)
		}
	}
	// The errors of the page, and then those of its content.
	for _, c := range []struct {
		key  string
		o    api.Object
		want api.Errno
	}{{"Resources", stray, api.ErrPage}, {"MediaBox", stray, api.ErrPage}, {"Contents", stray, api.ErrPage}, {"Contents", ref(5), api.ErrFilter}, {"Contents", sample.Array(ref(100), ref(5)), api.ErrFilter}, {"Type", stray, api.ErrPage}} {
		d := scene("(", stream("", entries{"Filter": value.Name("No")}))
		d.Items[2].Obj, _ = value.Set(d.Items[2].Obj, c.key, c.o)
		if _, e := draw.Page(d, 0); e != c.want {
			t.Errorf("Page with %s = %d, want %d", c.key, e, c.want)
		}
	}
}

// Promise 49.1: the matrix, and resources by a reference.
func TestRun(t *testing.T) {
	d := scene("", resources(0))
	content := "BT /F 10 Tf 1 2 Td (AB) Tj ET 3 4 1 1 re f"
	for _, c := range []struct {
		m    api.Matrix
		want api.Shown
	}{
		{matrix.One(), api.Shown{Glyphs: glyphs("AB", 1, 2, 6, 2).Glyphs, Paints: []api.Paint{{How: 1, Segs: square(3, 4, 4, 5)}}}},
		{matrix.Move(100*api.One, 200*api.One), api.Shown{Glyphs: glyphs("AB", 101, 202, 106, 202).Glyphs, Paints: []api.Paint{{How: 1, Segs: square(103, 204, 104, 205)}}}},
		{matrix.Scale(2*api.One, 3*api.One), api.Shown{Glyphs: []api.Glyph{{Code: 65, S: "A", From: at(2, 6), To: at(12, 6), High: 30 * api.One, Font: "F"}, {Code: 66, S: "B", From: at(12, 6), To: at(22, 6), High: 30 * api.One, Font: "F"}}, Paints: []api.Paint{{How: 1, Segs: square(6, 12, 8, 15)}}}},
	} {
		for _, res := range []api.Object{resources(0), ref(5)} {
			if got, e := draw.Run(d, res, content, c.m); !draw.Same(got, c.want) || e != api.OK {
				t.Errorf("Run under %v = %v, %d, want %v", c.m, got, e, c.want)
			}
		}
	}
}

// Promise 49.1: the current font.
func TestFonts(t *testing.T) {
	with := func(key string, o api.Object) api.Object { o, _ = value.Set(plainFont(), key, o); return o }
	unnamed := value.Drop(plainFont(), "BaseFont")
	for i, c := range []struct {
		res  api.Object
		want api.Errno
	}{
		{dict(entries{"Font": dict(entries{"F": ref(4)})}), api.OK}, {dict(entries{"Font": dict(entries{"F": plainFont()})}), api.OK}, {dict(entries{"Font": ref(5)}), api.OK}, {ref(6), api.OK},
		{sample.Dict(""), api.ErrFont}, {dict(entries{"Font": sample.Dict("")}), api.ErrFont}, {dict(entries{"Font": ref(99)}), api.ErrFont}, {dict(entries{"Font": ref(7)}), api.ErrFont}, {dict(entries{"Font": sample.Array(plainFont())}), api.ErrFont}, {dict(entries{"Font": dict(entries{"G": ref(4)})}), api.ErrFont}, {dict(entries{"Font": dict(entries{"F": ref(99)})}), api.ErrFont}, {dict(entries{"Font": dict(entries{"F": sample.Ref(4, 1)})}), api.ErrFont}, {dict(entries{"Font": dict(entries{"F": ref(8)})}), api.ErrFont},
		// The errors of font.Read.
		{dict(entries{"Font": dict(entries{"F": value.Name("F")})}), api.ErrFont}, {dict(entries{"Font": dict(entries{"F": unnamed})}), api.ErrFont}, {dict(entries{"Font": dict(entries{"F": with("ToUnicode", ref(9))})}), api.ErrFilter}, {dict(entries{"Font": dict(entries{"F": with("ToUnicode", ref(10))})}), api.ErrEnd}, {dict(entries{"Font": dict(entries{"F": with("ToUnicode", ref(100))})}), api.OK},
	} {
		d := scene("", dict(entries{"F": ref(4)}), dict(entries{"Font": ref(5)}), stream("", entries{"F": ref(4)}), value.Null(), stream("", entries{"Filter": value.Name("No")}), stream("1 beginbfchar", nil))
		// Twice, since the font is read once.
		got, e := draw.Run(d, c.res, "/F 10 Tf BT (A) Tj (B) Tj ET", matrix.One())
		if want := glyphs("AB", 0, 0, 5, 0); e != c.want || e == api.OK && !draw.Same(got, want) || e != api.OK && len(got.Glyphs) > 0 {
			t.Errorf("font %d shows %v, %d, want %d", i, got, e, c.want)
		}
	}
	// A name without bytes, which a state has from the beginning, may be that of a font.
	d := scene("")
	if got, e := draw.Run(d, dict(entries{"Font": api.Object{Kind: api.KDict, Keys: []string{""}, Kids: []api.Object{ref(4)}}}), "BT (A) Tj ET", matrix.One()); e != api.OK || len(got.Glyphs) != 1 || got.Glyphs[0].Font != "" || got.Glyphs[0].High != 0 {
		t.Errorf("a font without a name shows %v, %d", got, e)
	}
}

// Promise 49.2.
func TestSame(t *testing.T) {
	make := func() api.Shown {
		return api.Shown{Glyphs: glyphs("AB", 1, 2, 3, 4).Glyphs, Paints: []api.Paint{{How: 1, Segs: square(1, 2, 3, 4)}, {How: 2, Segs: square(1, 2, 3, 4)}}}
	}
	for i, change := range []func(s *api.Shown){
		func(s *api.Shown) { s.Glyphs[0].Code++ }, func(s *api.Shown) { s.Glyphs[1].S = "" }, func(s *api.Shown) { s.Glyphs[1].From.X++ }, func(s *api.Shown) { s.Glyphs[1].To.Y++ }, func(s *api.Shown) { s.Glyphs[1].High++ }, func(s *api.Shown) { s.Glyphs[1].Font = "" }, func(s *api.Shown) { s.Glyphs[1].Mode++ },
		func(s *api.Shown) { s.Glyphs = s.Glyphs[:1] }, func(s *api.Shown) { s.Paints = s.Paints[:1] }, func(s *api.Shown) { s.Glyphs = nil }, func(s *api.Shown) { s.Paints = nil }, func(s *api.Shown) { slices.Reverse(s.Glyphs) }, func(s *api.Shown) { slices.Reverse(s.Paints) },
		func(s *api.Shown) { s.Paints[1].How++ }, func(s *api.Shown) { s.Paints[1].Fill.A++ }, func(s *api.Shown) { s.Paints[1].Stroke.Space++ }, func(s *api.Shown) { s.Paints[1].Segs[2].R.X++ }, func(s *api.Shown) { s.Paints[1].Segs[2].P.Y++ }, func(s *api.Shown) { s.Paints[1].Segs[2].Kind++ }, func(s *api.Shown) { s.Paints[1].Segs = s.Paints[1].Segs[:4] },
	} {
		s := make()
		change(&s)
		if draw.Same(s, make()) || draw.Same(make(), s) || !draw.Same(s, s) {
			t.Errorf("change %d makes no difference", i)
		}
	}
	if !draw.Same(make(), make()) || !draw.Same(api.Shown{}, api.Shown{Glyphs: []api.Glyph{}, Paints: []api.Paint{}}) || !draw.Same(api.Shown{Paints: []api.Paint{{}}}, api.Shown{Paints: []api.Paint{{Segs: []api.Seg{}}}}) {
		t.Error("equal ones are not the same")
	}
}

// DOC.md, aliasing: what Run is given is not changed, and what it answers is new.
func TestMemory(t *testing.T) {
	d, res := scene("/X5 Do /X5 Do BT /F 10 Tf (A) Tj ET", form("1 2 3 4 re S", nil)), resources(1)
	was, resWas := sample.Copy(d), value.Clone(res)
	got, _ := draw.Run(d, res, d.Items[5].Obj.S, matrix.One())
	if len(got.Paints) != 2 || len(got.Glyphs) != 1 {
		t.Fatalf("it shows %v", got)
	}
	spoil(api.Shown{Paints: got.Paints[:1]})
	if got.Paints[1].Segs[0].Kind != api.SegMove || !docs.Same(d, was) || !value.Same(res, resWas) {
		t.Errorf("memory is shared: %v", got)
	}
}

// P5: pages that share what takes long to read.
func TestEachTakesNoLonger(t *testing.T) {
	d, _ := catalog.New(api.MaxPages)
	content, long := api.MaxPages+3, strings.Repeat("1 beginbfchar <41> <0042> endbfchar (a) ", 4000)
	d.Items = append(d.Items, item(content, stream("/F 10 Tf BT (A) Tj ET", nil)), item(content+1, stream(long, nil)))
	wide, _ := value.Set(plainFont(), "ToUnicode", ref(content+1))
	d.Items = append(d.Items, item(content+2, wide))
	for i := range api.MaxPages {
		d.Items[2+i].Obj, _ = value.Set(d.Items[2+i].Obj, "Contents", ref(content))
		d.Items[2+i].Obj, _ = value.Set(d.Items[2+i].Obj, "Resources", dict(entries{"Font": dict(entries{"F": ref(content + 2)})}))
	}
	begin, n := time.Now(), 0
	for shown, e := range draw.Each(d) {
		if len(shown.Glyphs) != 1 || shown.Glyphs[0].S != "B" || e != api.OK {
			t.Fatalf("page %d shows %v, %d", n, shown, e)
		}
		n++
	}
	if n != api.MaxPages || time.Since(begin) > 10*time.Second {
		t.Errorf("%d pages took %v", n, time.Since(begin))
	}
}
