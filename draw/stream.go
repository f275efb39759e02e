package draw

import (
	"foliant/api"
	"foliant/give"
	"foliant/matrix"
	"foliant/ops"
	"foliant/path"
	"foliant/show"
	"foliant/state"
	"foliant/value"
	"foliant/web"
)

// tally is what was shown, and how many operators were executed for it.
type tally struct {
	shown api.Shown
	steps int
}

// canvas is what a content and all forms in it are shown on, in one graphics state after the other. Its methods, and those of its streams, give up with the first error.
type canvas struct {
	*library
	tally
	state *state.Machine
	// open has the numbers of the forms that are being interpreted.
	open map[int]bool
}

// play interprets a content from the beginning, with a dictionary of resources and the matrix that transforms all of it.
func (l *library) play(content string, res api.Object, m api.Matrix) tally {
	c := canvas{library: l, state: state.New(m), open: map[int]bool{}}
	c.run(programOf(content), resourcesOf(res))
	return c.tally
}

// run interprets a content in the current state.
func (c *canvas) run(p program, res *resources) {
	give.UpOn(p.err)
	x := stream{canvas: c, res: res, text: show.New(), path: path.New(), floor: c.state.Depth()}
	for _, o := range p.ops {
		x.do(o)
	}
	if x.text.On() {
		give.Up(api.ErrState)
	}
}

// change changes the state by an operator.
func (c *canvas) change(name string, args ...api.Object) {
	give.UpOn(c.state.Do(api.Op{Name: name, Args: args}))
}

// count counts an operator.
func (c *canvas) count() {
	if c.steps >= api.MaxGlyphs {
		give.Up(api.ErrSteps)
	}
	c.steps++
}

// add shows a paint.
func (c *canvas) add(p api.Paint) {
	if len(c.shown.Paints) >= api.MaxSegs {
		give.Up(api.ErrMany)
	}
	c.shown.Paints = append(c.shown.Paints, p)
}

// image paints an image, which fills the square of one unit of space.
func (c *canvas) image() {
	g := c.state.State()
	square := path.New()
	give.UpOn(square.Do(api.Op{Name: "re", Args: []api.Object{value.Int(0), value.Int(0), value.Int(1), value.Int(1)}}, g.Ctm))
	c.add(api.Paint{How: api.PaintImage, Segs: square.Segs(), Fill: g.Fill, Stroke: g.Stroke})
}

// stream is a content that is being interpreted: its resources, its text and its path.
type stream struct {
	*canvas
	res  *resources
	text *show.Machine
	path *path.Path
	// floor is how many states were saved before it began, which are not its own to restore.
	floor int
}

// do executes an operator.
func (x *stream) do(o api.Op) {
	give.UpOn(ops.Check(o))
	x.count()
	switch o.Name {
	case "Q":
		if x.state.Depth() <= x.floor {
			give.Up(api.ErrState)
		}
		fallthrough
	case "q", "cm", "w", "M", "J", "j", "d", "i", "ri", "gs", "g", "G", "rg", "RG", "k", "K", "Tc", "Tw", "Tz", "TL", "Ts", "Tf", "Tr":
		give.UpOn(x.state.Do(o))
	case "m", "l", "c", "v", "y", "h", "re", "W", "W*":
		give.UpOn(x.path.Do(o, x.state.State().Ctm))
	case "S", "s", "f", "F", "f*", "B", "B*", "b", "b*", "n":
		x.paint(o)
	case "Do":
		x.object(o.Args[0].S)
	case "BI":
		x.image()
	default:
		x.write(o)
	}
}

// write executes an operator of text, and no other.
func (x *stream) write(o api.Op) {
	switch o.Name {
	case "TD":
		x.change("TL", negated(o.Args[1]))
		fallthrough
	case "BT", "ET", "Td", "T*", "Tm":
		x.show(o, api.Font{})
	case "\"":
		x.change("Tw", o.Args[0])
		x.change("Tc", o.Args[1])
		fallthrough
	case "Tj", "TJ", "'":
		x.show(o, x.font(x.res, x.state.State().Text.Font))
	}
}

// negated returns a number with the other sign, or gives up if it is out of range.
func negated(o api.Object) api.Object {
	n, ok := value.Number(o)
	if !ok {
		give.Up(api.ErrRange)
	}
	return value.Real(-n)
}

// show executes an operator of text with a font, and shows its glyphs.
func (x *stream) show(o api.Op, f api.Font) {
	l := give.Value(x.text.Do(o, x.state.State(), f))
	if len(l) > api.MaxGlyphs-len(x.shown.Glyphs) {
		give.Up(api.ErrMany)
	}
	x.shown.Glyphs = append(x.shown.Glyphs, l...)
}

// paint executes a painting operator, and shows what it paints, if anything.
func (x *stream) paint(o api.Op) {
	p, ok, e := x.path.Paint(o, x.state.State())
	give.UpOn(e)
	if ok {
		x.add(p)
	}
}

// object shows the XObject that has a name in the resources.
func (x *stream) object(name string) {
	if x.text.On() {
		give.Up(api.ErrState)
	}
	ref, _ := web.Get(x.web.Path(x.res.dict, objectsKey), name)
	o := x.web.Follow(ref)
	if o.Kind != api.KStream {
		give.Up(api.ErrNone)
	}
	switch kind := x.web.Path(o, kindKey); {
	case isName(kind, imageKind):
		x.image()
	case isName(kind, formKind):
		x.enter(int(ref.N))
	default:
		give.Up(api.ErrKind)
	}
}

// enter interprets the form that is the item with the number num. A stream is always an item, since it can't stand in another object.
func (x *stream) enter(num int) {
	if x.open[num] {
		give.Up(api.ErrLoop)
	}
	if len(x.open) >= api.MaxForms {
		give.Up(api.ErrDeep)
	}
	f := x.form(num)
	res := f.res
	if res == nil {
		res = x.res
	}
	saved := x.state.Depth()
	x.change("q")
	x.change("cm", matrix.Object(f.matrix).Kids...)
	x.open[num] = true
	x.run(f.program, res)
	delete(x.open, num)
	for x.state.Depth() > saved {
		x.change("Q")
	}
}
