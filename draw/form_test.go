package draw_test

import (
	"fmt"
	"math"
	"strings"
	"testing"
	"time"

	"foliant/api"
	"foliant/draw"
	"foliant/matrix"
	"foliant/sample"
	"foliant/value"
)

// Promise 49.1: what forms show.
func TestForms(t *testing.T) {
	red := api.Color{Space: api.SpaceRGB, A: api.One}
	line := func(x0, y0, x1, y1 int64) api.Paint {
		return api.Paint{How: api.PaintStroke, Segs: []api.Seg{{Kind: api.SegMove, R: at(x0, y0)}, {Kind: api.SegLine, R: at(x1, y1)}}}
	}
	stroke := "1 2 m 3 4 l S"
	paints := func(list ...api.Paint) api.Shown { return api.Shown{Paints: list} }
	colored := line(1, 2, 3, 4)
	colored.Stroke = red
	half := dict(entries{"Font": dict(entries{"F": ref(6)})})
	for i, c := range []struct {
		content string
		form    api.Object
		want    api.Shown
		steps   int
	}{
		{"/X5 Do", form(stroke, nil), paints(line(1, 2, 3, 4)), 4},
		{"/X5 Do /X5 Do", form(stroke, nil), paints(line(1, 2, 3, 4), line(1, 2, 3, 4)), 8},
		{"/X5 Do", form("", nil), api.Shown{}, 1},
		{"/X5 Do", form("31203220", entries{"Filter": value.Name("AHx"), "Subtype": ref(6)}), api.Shown{}, 0},
		{"/X5 Do", form("312032206D>", entries{"Filter": value.Name("AHx")}), api.Shown{}, 2},
		{"1 0 0 1 10 20 cm /X5 Do " + stroke, form(stroke, entries{"Matrix": ints(2, 0, 0, 3, 100, 200)}), paints(line(112, 226, 116, 232), line(11, 22, 13, 24)), 8},
		{"2 0 0 3 0 0 cm /X5 Do", form(stroke, entries{"Matrix": ints(1, 0, 0, 1, 10, 20)}), paints(line(22, 66, 26, 72)), 5},
		{"/X5 Do", form(stroke, entries{"Matrix": ref(99)}), paints(line(1, 2, 3, 4)), 4},
		{"/X5 Do", form(stroke, entries{"Matrix": sample.Array(value.Real(10000), value.Real(0), value.Real(0), value.Real(10000), value.Real(10000), value.Real(20000))}), paints(line(2, 4, 4, 6)), 4},
		// The state is that of the content around, and is restored, however many states are saved.
		{"1 0 0 RG /X5 Do " + stroke, form(stroke+" 0 G", nil), paints(colored, colored), 9},
		{"/X5 Do " + stroke, form("q q 1 0 0 RG "+stroke+" q 5 w 1 0 0 1 7 7 cm", nil), paints(colored, line(1, 2, 3, 4)), 13},
		{"q 1 0 0 RG /X5 Do Q " + stroke, form("q Q "+stroke, nil), paints(colored, line(1, 2, 3, 4)), 12},
		// A path and a text machine of its own.
		{"1 2 m /X5 Do 3 4 l S", form("7 7 m", nil), paints(line(1, 2, 3, 4)), 5},
		{"1 2 3 4 re W /X5 Do n", form(stroke, nil), paints(line(1, 2, 3, 4), api.Paint{How: api.PaintClip, Segs: square(1, 2, 4, 6)}), 7},
		{"/F 10 Tf BT 5 5 Td ET /X5 Do BT (A) Tj ET", form("BT (B) Tj 0 0 (C) \" ET", nil), glyphs("BCA", 0, 0, 0, 0, 0, 0), 12},
		// The resources are its own, or those of the content around.
		{"/F 10 Tf /X5 Do", form("BT (A) Tj ET", entries{"Resources": half}), api.Shown{Glyphs: []api.Glyph{{Code: 65, S: "A", To: api.Point{X: 25000}, High: 100000, Font: "F"}}}, 5},
		{"/F 10 Tf /X5 Do BT (A) Tj ET", form("BT (A) Tj ET", entries{"Resources": ref(7)}), api.Shown{Glyphs: []api.Glyph{{Code: 65, S: "A", To: api.Point{X: 25000}, High: 100000, Font: "F"}, glyph("A", 0, 0)}}, 8},
		{"/F 10 Tf /X5 Do", form("BT (A) Tj ET", entries{"Resources": ref(99)}), glyphs("A", 0, 0), 5},
		{"/X8 Do", form("BT /F 10 Tf (A) Tj ET", nil), glyphs("A", 0, 0), 6},
	} {
		narrow, _ := value.Set(plainFont(), "Widths", ints(250))
		d := scene(c.content, c.form, narrow, half, form("/X5 Do", nil))
		if c.steps == 0 {
			fails(t, d, api.ErrKind)
			continue
		}
		t.Run(fmt.Sprint(i), func(t *testing.T) { shows(t, d, c.want, c.steps) })
	}
}

// Promise 49.1: what is wrong with a form, in the order in which it is told.
func TestFormErrors(t *testing.T) {
	odd, none := value.Int(1), value.Name("No")
	for i, c := range []struct {
		content string
		form    api.Object
		want    api.Errno
	}{
		{"/X5 Do", form("", nil), api.OK}, {"BT /X5 Do", form("", nil), api.ErrState}, {"/X4 Do", form("", nil), api.ErrNone}, {"BT /X4 Do", form("", nil), api.ErrState},
		{"/X5 Do", dict(entries{"Subtype": value.Name("Form")}), api.ErrNone}, {"/X5 Do", value.Null(), api.ErrNone},
		{"/X5 Do", stream("", nil), api.ErrKind}, {"/X5 Do", form("", entries{"Subtype": value.String("Form")}), api.ErrKind}, {"/X5 Do", form("", entries{"Subtype": value.Name("PS")}), api.ErrKind}, {"/X5 Do", form("", entries{"Subtype": ref(99)}), api.ErrKind}, {"/X5 Do", form("", entries{"Subtype": ref(6)}), api.OK}, {"/X5 Do", form("", entries{"Subtype": value.Name("Image"), "Filter": none}), api.OK},
		{"/X5 Do", form("/X5 Do", nil), api.ErrLoop}, {"/X5 Do", form("/X8 Do", nil), api.ErrLoop}, {"/X8 Do", form("/X8 Do", nil), api.ErrLoop},
		{"/X5 Do", form("(", entries{"Filter": none, "Resources": odd, "Matrix": odd}), api.ErrFilter}, {"/X5 Do", form("x", entries{"Filter": value.Name("AHx"), "Resources": odd}), api.ErrForm},
		{"/X5 Do", form("(", entries{"Resources": odd, "Matrix": ints(1)}), api.ErrKind}, {"/X5 Do", form("", entries{"Resources": ref(6)}), api.ErrKind}, {"/X5 Do", form("", entries{"Resources": ref(8)}), api.ErrKind},
		{"/X5 Do", form("(", entries{"Matrix": odd}), api.ErrKind}, {"/X5 Do", form("(", entries{"Matrix": ints(1)}), api.ErrForm}, {"/X5 Do", form("(", entries{"Matrix": ints(1, 0, 0, 1, 0, 107375)}), api.ErrForm}, {"/X5 Do", form("(", entries{"Matrix": sample.Array(odd, odd, odd, odd, odd, ref(7))}), api.ErrForm}, {"/X5 Do", form("", entries{"Matrix": ref(6)}), api.ErrKind},
		{strings.Repeat("q ", 28) + "/X5 Do", form("(", entries{"Matrix": ints(1)}), api.ErrForm}, {strings.Repeat("q ", 28) + "/X5 Do", form("(", nil), api.ErrMany}, {strings.Repeat("q ", 27) + "/X5 Do", form("(", nil), api.ErrEnd}, {strings.Repeat("q ", 27) + "/X5 Do Q", form("", nil), api.OK}, {strings.Repeat("q ", 27) + "/X5 Do", form("q", nil), api.ErrMany},
		{"99999 0 0 1 0 0 cm /X5 Do", form("(", entries{"Matrix": ints(99999, 0, 0, 1, 0, 0)}), api.ErrRange},
		{"/X5 Do", form("(", nil), api.ErrEnd}, {"/X5 Do", form("Q", nil), api.ErrState}, {"q /X5 Do", form("Q", nil), api.ErrState}, {"/X5 Do", form("q Q Q", nil), api.ErrState}, {"/X5 Do", form("BT", nil), api.ErrState}, {"/X5 Do", form("x", nil), api.ErrOp}, {"/X5 Do", form("1 1 l", nil), api.ErrState}, {"1 1 m /X5 Do", form("1 1 l", nil), api.ErrState}, {"/F 1 Tf /X5 Do", form("BT (A) Tj ET", entries{"Resources": sample.Dict("")}), api.ErrFont}, {"/X5 Do", form("/X8 Do", entries{"Resources": sample.Dict("")}), api.ErrNone},
	} {
		d := scene(c.content, c.form, value.Name("Form"), value.Int(1), form("/X5 Do", nil))
		if c.want != api.OK {
			fails(t, d, c.want)
		} else if _, e := draw.Page(d, 0); e != api.OK {
			t.Errorf("form %d has the error %d", i, e)
		}
	}
	// What the resources have as XObject.
	for i, c := range []struct {
		objects api.Object
		want    api.Errno
	}{
		{value.Null(), api.ErrNone}, {ref(99), api.ErrNone}, {sample.Array(ref(5)), api.ErrNone}, {value.Name("X"), api.ErrNone}, {dict(entries{"X": sample.Ref(5, 1)}), api.ErrNone}, {dict(entries{"X": value.Null()}), api.ErrNone}, {dict(entries{"Y": ref(5)}), api.ErrNone}, {dict(entries{"X": dict(entries{"Subtype": value.Name("Form")})}), api.ErrNone},
		{dict(entries{"X": ref(5)}), api.OK}, {ref(6), api.OK}, {ref(7), api.OK},
	} {
		d := scene("", form("", nil), dict(entries{"X": ref(5)}), stream("", entries{"X": ref(5)}))
		if _, e := draw.Run(d, dict(entries{"XObject": c.objects}), "/X Do", matrix.One()); e != c.want {
			t.Errorf("Do with the XObjects %d = %d, want %d", i, e, c.want)
		}
	}
}

// Promise 49.1: forms in forms.
func TestFormDepth(t *testing.T) {
	chain := func(size int, last string) api.Doc {
		var list []api.Object
		for n := range size - 1 {
			list = append(list, form(fmt.Sprintf("/X%d Do", 6+n), nil))
		}
		return scene("/X5 Do", append(list, form(last, nil))...)
	}
	for _, size := range []int{1, 2, 5, api.MaxForms} {
		shows(t, chain(size, "1 2 3 4 re f"), api.Shown{Paints: []api.Paint{{How: 1, Segs: square(1, 2, 4, 6)}}}, size+2)
		fails(t, chain(size, "/X5 Do"), api.ErrLoop)
		fails(t, chain(size, fmt.Sprintf("/X%d Do", size+4)), api.ErrLoop)
	}
	for _, size := range []int{api.MaxForms + 1, api.MaxForms + 2, 20} {
		fails(t, chain(size, "("), api.ErrDeep)
	}
	d := chain(api.MaxForms+1, "")
	for i, c := range []struct {
		last api.Object
		want api.Errno
	}{
		{form("", entries{"Filter": value.Name("No")}), api.ErrDeep}, {form("", entries{"Subtype": value.Name("No")}), api.ErrKind}, {value.Null(), api.ErrNone}, {form("", entries{"Subtype": value.Name("Image")}), api.OK},
	} {
		d.Items[len(d.Items)-2].Obj = c.last
		if _, e := draw.Page(d, 0); e != c.want {
			t.Errorf("the innermost object %d has the error %d, want %d", i, e, c.want)
		}
	}
}

// Promise 49.1: the greatest number of operators.
func TestSteps(t *testing.T) {
	long := form(strings.Repeat("n ", 8000), nil)
	for rest, want := range map[int]api.Errno{0: api.OK, api.MaxGlyphs - 16003: api.OK, api.MaxGlyphs - 16002: api.OK, api.MaxGlyphs - 16001: api.ErrSteps, 8000: api.ErrSteps} {
		d := scene("/X5 Do /X5 Do "+strings.Repeat("q Q ", rest/2)+strings.Repeat("n ", rest%2), long)
		if want == api.OK {
			shows(t, d, api.Shown{}, 16002+rest)
		} else {
			fails(t, d, want)
		}
	}
	full := "/X5 Do /X5 Do " + strings.Repeat("n ", api.MaxGlyphs-16002)
	for more, want := range map[string]api.Errno{"n": api.ErrSteps, "Q": api.ErrSteps, "/X5 Do": api.ErrSteps, "/X9 Do": api.ErrSteps, "x": api.ErrOp, "1 n": api.ErrOp} {
		fails(t, scene(full+more, long), want)
	}
	// Of a content that has too many operators by itself nothing is executed.
	fails(t, scene(strings.Repeat("n ", api.MaxOps+1)+"("), api.ErrMany)
	fails(t, scene("x "+strings.Repeat("n ", api.MaxOps)), api.ErrMany)
	shows(t, scene(strings.Repeat("n ", api.MaxOps)), api.Shown{}, api.MaxOps)
	fails(t, scene("/X5 Do /X5 Do /X5 Do", long), api.ErrSteps)
}

// Promise 49.1: the greatest numbers of glyphs and of paints.
func TestMostShown(t *testing.T) {
	text := form("BT ("+strings.Repeat("A", api.MaxGlyphs/2)+") Tj ET", nil)
	images := form(strings.Repeat("/X7 Do ", api.MaxSegs/2), nil)
	dot := stream("", entries{"Subtype": value.Name("Image")})
	for _, c := range []struct {
		content        string
		glyphs, paints int
		want           api.Errno
	}{
		{"/F 0 Tf /X5 Do /X5 Do", api.MaxGlyphs, 0, api.OK}, {"/F 0 Tf /X5 Do BT () Tj ET /X5 Do BT () Tj [] TJ ET", api.MaxGlyphs, 0, api.OK}, {"/F 0 Tf /X5 Do BT (A) Tj ET /X5 Do", 0, 0, api.ErrMany}, {"/F 0 Tf /X5 Do /X5 Do BT (A) Tj", 0, 0, api.ErrMany}, {"/F 0 Tf /X5 Do /X5 Do BT [1 (A)] TJ", 0, 0, api.ErrMany}, {"/F 0 Tf /X5 Do /X5 Do BT (A) '", 0, 0, api.ErrMany}, {"/F 0 Tf /X5 Do /X5 Do BT 0 0 (A) \"", 0, 0, api.ErrMany},
		{"/X6 Do /X6 Do", 0, api.MaxSegs, api.OK}, {"/X6 Do /X6 Do n 1 1 m n", 0, api.MaxSegs, api.OK}, {"/X6 Do /X6 Do 1 1 m S", 0, 0, api.ErrMany}, {"/X6 Do /X7 Do /X6 Do", 0, 0, api.ErrMany}, {"/X6 Do /X6 Do /X7 Do", 0, 0, api.ErrMany}, {"/X6 Do /X6 Do BI ID x EI", 0, 0, api.ErrMany}, {"/X6 Do /X6 Do 1 1 m W n", 0, 0, api.ErrMany},
		{"/F 0 Tf /X5 Do /X6 Do /X5 Do /X6 Do", api.MaxGlyphs, api.MaxSegs, api.OK},
	} {
		got, e := draw.Page(scene(c.content, text, images, dot), 0)
		if len(got.Glyphs) != c.glyphs || len(got.Paints) != c.paints || e != c.want {
			t.Errorf("%s shows %d glyphs and %d paints, %d, want %d and %d, %d", c.content, len(got.Glyphs), len(got.Paints), e, c.glyphs, c.paints, c.want)
		}
	}
}

// P5: contents that use many times what takes long.
func TestFormsTakeNoLonger(t *testing.T) {
	begin := time.Now()
	nested := []api.Object{}
	for n := range 11 {
		nested = append(nested, form(strings.Repeat(fmt.Sprintf("/X%d Do ", 6+n), 16), nil))
	}
	fails(t, scene("/X5 Do", append(nested, form("n n n", nil))...), api.ErrSteps)

	comment := form("%"+strings.Repeat("c", api.MaxData-1), nil)
	shows(t, scene(strings.Repeat("/X5 Do ", api.MaxOps), comment), api.Shown{}, api.MaxOps)

	maps := stream(strings.Repeat("1 beginbfchar <42> <0042> endbfchar ", 4000)+strings.Repeat(" ", 800000), nil)
	slow, _ := value.Set(plainFont(), "ToUnicode", ref(5))
	res := dict(entries{"Font": dict(entries{"F": slow})})
	got, e := draw.Run(scene("", maps), res, "BT /F 0 Tf "+strings.Repeat("(A) Tj ", api.MaxOps-3)+"ET", matrix.One())
	if len(got.Glyphs) != api.MaxOps-3 || e != api.OK {
		t.Errorf("%d glyphs are shown, %d", len(got.Glyphs), e)
	}

	objects := entries{}
	for n := range api.MaxKids {
		objects[fmt.Sprint("X", n)] = ref(5)
	}
	res = dict(entries{"XObject": dict(objects), "Font": dict(objects)})
	if _, e := draw.Run(scene("", comment), res, strings.Repeat("/X77 Do ", api.MaxOps), matrix.One()); e != api.OK {
		t.Errorf("many objects have the error %d", e)
	}
	if time.Since(begin) > 20*time.Second {
		t.Errorf("it took %v", time.Since(begin))
	}
}

// DOC.md, termination: contents and resources that make no sense.
func TestNoPanic(t *testing.T) {
	d := scene("", form("", nil))
	for _, o := range sample.Objects() {
		for _, m := range []api.Matrix{matrix.One(), {A: math.MaxInt64, D: math.MinInt64}} {
			draw.Run(d, o, "/X5 Do BT /F 1 Tf (A) Tj ET", m)
			draw.Run(d, dict(entries{"Font": o, "XObject": o}), "/A Do", m)
			draw.Run(d, dict(entries{"Font": o, "XObject": o}), "/A 1 Tf BT (A) Tj ET", m)
		}
	}
	for n := range 256 {
		for _, s := range []string{"", "q ", "BT ", "/F 1 Tf "} {
			draw.Run(d, resources(1), s+string([]byte{byte(n)})+sample.Bytes()[n:], matrix.One())
		}
	}
}
