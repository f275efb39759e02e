package draw_test

import (
	"slices"
	"strings"
	"testing"

	"foliant/api"
	"foliant/docs"
	"foliant/draw"
	"foliant/filter"
	"foliant/font"
	"foliant/matrix"
	"foliant/ops"
	"foliant/pages"
	"foliant/path"
	"foliant/sample"
	"foliant/show"
	"foliant/state"
	"foliant/value"
)

// model interprets contents by the words of the chapter.
type model struct {
	d     api.Doc
	state *state.Machine
	open  []int64
	shown api.Shown
	steps int
}

// part is a content that is being interpreted.
type part struct {
	*model
	res   api.Object
	begun int
	text  *show.Machine
	path  *path.Path
}

// run interprets a content.
func (x *model) run(content string, res api.Object) api.Errno {
	list, fault := ops.Read(content)
	if fault.Err != api.OK {
		return fault.Err
	}
	p := part{x, res, x.state.Depth(), show.New(), path.New()}
	for _, o := range list {
		if e := ops.Check(o); e != api.OK {
			return e
		}
		if x.steps++; x.steps > 16384 {
			return api.ErrSteps
		}
		if e := p.do(o); e != api.OK {
			return e
		}
		if len(x.shown.Glyphs) > 16384 || len(x.shown.Paints) > 8192 {
			return api.ErrMany
		}
	}
	if p.text.On() {
		return api.ErrState
	}
	return api.OK
}

// do executes an operator, as whichever machine takes it.
func (p *part) do(o api.Op) api.Errno {
	if o.Name == "Q" && p.state.Depth() == p.begun {
		return api.ErrState
	}
	if e := p.state.Do(o); e != api.ErrNone {
		return e
	}
	if e := p.path.Do(o, p.state.State().Ctm); e != api.ErrNone {
		return e
	}
	if paint, ok, e := p.path.Paint(o, p.state.State()); e != api.ErrNone {
		if ok {
			p.shown.Paints = append(p.shown.Paints, paint)
		}
		return e
	}
	switch o.Name {
	case "Do":
		return p.object(o.Args[0].S)
	case "BI":
		return p.image()
	}
	return p.say(o)
}

// say executes an operator of text, if it is one.
func (p *part) say(o api.Op) api.Errno {
	change := func(name string, o api.Object) api.Errno {
		return p.state.Do(api.Op{Name: name, Args: []api.Object{o}})
	}
	if o.Name == "TD" {
		n, ok := value.Number(o.Args[1])
		if !ok {
			return api.ErrRange
		}
		if e := change("TL", value.Real(-n)); e != api.OK {
			return e
		}
	}
	if o.Name == "\"" {
		if e := change("Tw", o.Args[0]); e != api.OK {
			return e
		}
		if e := change("Tc", o.Args[1]); e != api.OK {
			return e
		}
	}
	var f api.Font
	if slices.Contains(strings.Fields("Tj TJ ' \""), o.Name) {
		list := docs.Path(p.d, p.res, "Font")
		v, _ := value.Get(list, p.state.State().Text.Font)
		if list.Kind != api.KDict || docs.Follow(p.d, v).Kind == api.KNull {
			return api.ErrFont
		}
		var e api.Errno
		if f, e = font.Read(p.d, v); e != api.OK {
			return e
		}
	}
	l, e := p.text.Do(o, p.state.State(), f)
	p.shown.Glyphs = append(p.shown.Glyphs, l...)
	if e == api.ErrNone {
		// Neither an operator of text nor of anything that is shown.
		e = api.OK
	}
	return e
}

// image paints an image.
func (p *part) image() api.Errno {
	g := p.state.State()
	paint := api.Paint{How: 16, Fill: g.Fill, Stroke: g.Stroke}
	for i, corner := range []api.Point{{X: 0, Y: 0}, {X: 10000, Y: 0}, {X: 10000, Y: 10000}, {X: 0, Y: 10000}} {
		at, e := matrix.Apply(g.Ctm, corner)
		if e != api.OK {
			return e
		}
		paint.Segs = append(paint.Segs, api.Seg{Kind: 1 + min(i, 1), R: at})
	}
	paint.Segs = append(paint.Segs, api.Seg{Kind: 4})
	p.shown.Paints = append(p.shown.Paints, paint)
	return api.OK
}

// object shows an XObject.
func (p *part) object(name string) api.Errno {
	if p.text.On() {
		return api.ErrState
	}
	v, _ := value.Get(docs.Path(p.d, p.res, "XObject"), name)
	o := docs.Follow(p.d, v)
	if o.Kind != api.KStream {
		return api.ErrNone
	}
	kind := docs.Path(p.d, o, "Subtype")
	if value.Same(kind, value.Name("Image")) {
		return p.image()
	}
	if !value.Same(kind, value.Name("Form")) {
		return api.ErrKind
	}
	if slices.Contains(p.open, v.N) {
		return api.ErrLoop
	}
	if len(p.open) == 12 {
		return api.ErrDeep
	}
	return p.form(v.N, o)
}

// form shows a form.
func (p *part) form(num int64, o api.Object) api.Errno {
	data, e := filter.Decode(o)
	if e != api.OK {
		return e
	}
	res := docs.Path(p.d, o, "Resources")
	switch res.Kind {
	case api.KDict:
	case api.KNull:
		res = p.res
	default:
		return api.ErrKind
	}
	m := matrix.One()
	if o := docs.Path(p.d, o, "Matrix"); o.Kind != api.KNull {
		if m, e = matrix.Read(o); e != api.OK {
			return e
		}
	}
	saved := p.state.Depth()
	if e := p.state.Do(api.Op{Name: "q"}); e != api.OK {
		return e
	}
	if e := p.state.Do(api.Op{Name: "cm", Args: matrix.Object(m).Kids}); e != api.OK {
		return e
	}
	p.open = append(p.open, num)
	if e := p.run(data, res); e != api.OK {
		return e
	}
	p.open = p.open[:len(p.open)-1]
	for p.state.Depth() > saved {
		p.state.Do(api.Op{Name: "Q"})
	}
	return api.OK
}

// run does what Run does, and returns the number of operators too.
func run(d api.Doc, res api.Object, content string, m api.Matrix) (api.Shown, int, api.Errno) {
	if e := docs.Check(d); e != api.OK {
		return api.Shown{}, 0, e
	}
	if e := value.Check(res); e != api.OK {
		return api.Shown{}, 0, e
	}
	if res = docs.Follow(d, res); res.Kind != api.KDict {
		return api.Shown{}, 0, api.ErrKind
	}
	if len(content) > api.MaxData {
		return api.Shown{}, 0, api.ErrLong
	}
	if e := matrix.Check(m); e != api.OK {
		return api.Shown{}, 0, e
	}
	x := model{d: d, state: state.New(m)}
	if e := x.run(content, res); e != api.OK {
		return api.Shown{}, 0, e
	}
	return x.shown, x.steps, api.OK
}

// pageOf does what Page does, and returns the number of operators too.
func pageOf(d api.Doc, n int) (api.Shown, int, api.Errno) {
	p, e := pages.Get(d, n)
	if e != api.OK {
		return api.Shown{}, 0, e
	}
	content, e := pages.Content(d, n)
	if e != api.OK {
		return api.Shown{}, 0, e
	}
	return run(d, p.Res, content, matrix.One())
}

// Promises 49.1 and 49.2, by the words of the chapter.
func TestByTheWords(t *testing.T) {
	errs, glyphs, paints, steps := map[api.Errno]int{}, 0, 0, 0
	for _, d := range slices.Concat(sample.Scenes(), sample.Trees()[:150], sample.Webs()[:30], sample.Docs()[:3]) {
		was := sample.Copy(d)
		n, _ := pages.Count(d)
		for at := -1; at <= n; at++ {
			want, wantSteps, wantErr := pageOf(d, at)
			got, e := draw.Page(d, at)
			if !draw.Same(got, want) || e != wantErr {
				t.Fatalf("Page(%s, %d) = %s, %d, want %s, %d", brief(d), at, brief(got), e, brief(want), wantErr)
			}
			if steps, e := draw.Steps(d, at); steps != wantSteps || e != wantErr {
				t.Fatalf("Steps(%s, %d) = %d, %d, want %d, %d", brief(d), at, steps, e, wantSteps, wantErr)
			}
			errs[e]++
			glyphs, paints, steps = glyphs+len(got.Glyphs), paints+len(got.Paints), steps+wantSteps
			spoil(got)
		}
		if !docs.Same(d, was) {
			t.Fatalf("the document has changed: %s", brief(was))
		}
	}
	for _, e := range []api.Errno{api.ErrNone, api.ErrState, api.ErrOp, api.ErrRange, api.ErrKind, api.ErrFont, api.ErrLoop, api.ErrForm, api.ErrPage} {
		if errs[e] < 5 {
			t.Errorf("the errors are %v", errs)
		}
	}
	if errs[api.OK] < 1000 || glyphs < 8000 || paints < 4000 || steps < 40000 {
		t.Errorf("the errors are %v, with %d glyphs, %d paints and %d steps", errs, glyphs, paints, steps)
	}
}

// spoil changes all that is shown.
func spoil(s api.Shown) {
	for i := range s.Glyphs {
		s.Glyphs[i].Code++
	}
	for _, p := range s.Paints {
		for i := range p.Segs {
			p.Segs[i].Kind++
		}
	}
}

// Each, by which search goes through the pages: what Page returns for each of them, or the error of the tree.
func TestEach(t *testing.T) {
	invalid := []api.Doc{}
	for _, b := range sample.BadDocs() {
		invalid = append(invalid, b.Is)
	}
	failed, after := 0, 0
	for _, d := range slices.Concat(sample.Scenes()[:300], sample.Trees()[:150], sample.Webs()[:10], sample.Docs()[:3], invalid) {
		n, treeErr := pages.Count(d)
		at, bad := 0, false
		for got, e := range draw.Each(d) {
			want, wantErr := draw.Page(d, at)
			if treeErr != api.OK {
				want, wantErr = api.Shown{}, treeErr
			}
			if !draw.Same(got, want) || e != wantErr {
				t.Errorf("page %d of %s is %s, %d, want %s, %d", at, brief(d), brief(got), e, brief(want), wantErr)
			}
			if bad {
				after++
			}
			if e != api.OK {
				failed++
				bad = true
			}
			at++
		}
		if want := max(n, 0); treeErr == api.OK && at != want || treeErr != api.OK && at != 1 {
			t.Errorf("%d pages of %s, which has %d", at, brief(d), n)
		}
		for range draw.Each(d) {
			break
		}
	}
	if failed < 100 || after < 50 {
		t.Errorf("%d pages have failed, and %d came after such ones", failed, after)
	}
}

// Promise 49.3: a translation moves everything and changes nothing else.
func TestTranslation(t *testing.T) {
	moved, shift := 0, api.Point{X: 123457, Y: -98765}
	for _, d := range sample.Scenes() {
		n, _ := pages.Count(d)
		for at := range n {
			p, _ := pages.Get(d, at)
			content, e := pages.Content(d, at)
			want, wantErr := draw.Run(d, p.Res, content, matrix.One())
			if e != api.OK || wantErr != api.OK {
				continue
			}
			for i := range want.Glyphs {
				g := &want.Glyphs[i]
				g.From, g.To = plus(g.From, shift), plus(g.To, shift)
			}
			for _, p := range want.Paints {
				for i := range p.Segs {
					translate(&p.Segs[i], shift)
				}
			}
			got, e := draw.Run(d, p.Res, content, matrix.Move(shift.X, shift.Y))
			if !draw.Same(got, want) || e != api.OK {
				t.Fatalf("%q in %s is moved to %s, %d, want %s", content, brief(d), brief(got), e, brief(want))
			}
			moved += len(got.Glyphs) + len(got.Paints)
		}
	}
	if moved < 8000 {
		t.Errorf("%d things were moved", moved)
	}
}

// plus returns the sum of two points.
func plus(a, b api.Point) api.Point { return api.Point{X: a.X + b.X, Y: a.Y + b.Y} }

// translate moves the points that a segment has.
func translate(s *api.Seg, by api.Point) {
	switch s.Kind {
	case api.SegCurve:
		s.P, s.Q = plus(s.P, by), plus(s.Q, by)
		fallthrough
	case api.SegMove, api.SegLine:
		s.R = plus(s.R, by)
	}
}

// Promise 49.3: a form without a Matrix shows what its content shows.
func TestFormAsContent(t *testing.T) {
	shown := 0
	for _, d := range sample.Scenes() {
		n, _ := pages.Count(d)
		for at := range n {
			p, _ := pages.Get(d, at)
			content, _ := pages.Content(d, at)
			want, wantErr := draw.Page(d, at)
			if wantErr != api.OK {
				continue
			}
			stream := sample.Dict("Resources Subtype", p.Res, value.Name("Form"))
			stream.Kind, stream.S = api.KStream, content
			more, num, e := docs.Add(d, stream)
			if e != api.OK {
				t.Fatalf("Add = %d", e)
			}
			res := sample.Dict("XObject", sample.Dict("X", ref(num)))
			// One more form may be one too many, or save one state too many.
			got, e := draw.Run(more, res, "/X Do", matrix.One())
			if e != api.ErrDeep && e != api.ErrMany && (!draw.Same(got, want) || e != api.OK) {
				t.Fatalf("the form with %q in %s shows %s, %d, want %s", content, brief(d), brief(got), e, brief(want))
			}
			shown += len(got.Glyphs) + len(got.Paints)
		}
	}
	if shown < 8000 {
		t.Errorf("%d things were shown", shown)
	}
}
