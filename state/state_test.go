package state_test

import (
	"math"
	"slices"
	"strconv"
	"testing"

	"foliant/api"
	"foliant/matrix"
	"foliant/ops"
	"foliant/sample"
	"foliant/state"
	"foliant/value"
)

const most = api.MaxFix

// op returns an operator without data.
func op(name string, args ...api.Object) api.Op { return api.Op{Name: name, Args: args} }

// ints returns an operator with integers.
func ints(name string, list ...int64) api.Op {
	o := op(name)
	for _, n := range list {
		o.Args = append(o.Args, value.Int(n))
	}
	return o
}

// units returns an operator with numbers of units.
func units(name string, list ...int64) api.Op {
	o := op(name)
	for _, n := range list {
		o.Args = append(o.Args, value.Real(n))
	}
	return o
}

// dash returns the operator d.
func dash(phase api.Object, list ...api.Object) api.Op { return op("d", sample.Array(list...), phase) }

// some is a matrix that is not the identity.
func some() api.Matrix {
	return api.Matrix{A: 2 * api.One, B: 1, C: -7, D: 3 * api.One, E: 100, F: -200}
}

// initial is what First must return.
func initial(m api.Matrix) api.Graphics {
	return api.Graphics{Ctm: m, Width: 10000, Miter: 100000, Fill: api.Color{Space: api.SpaceGray}, Stroke: api.Color{Space: api.SpaceGray}, Text: api.TextState{Scale: 1000000}}
}

// Promise 44.1.
func TestNew(t *testing.T) {
	for _, m := range []api.Matrix{matrix.One(), {}, some(), {A: most, F: -most}} {
		x := state.New(m)
		if x == nil || !state.Same(x.State(), initial(m)) || x.Depth() != 0 || !state.Same(state.First(m), initial(m)) {
			t.Errorf("New(%v) = %v, and First = %v", m, x, state.First(m))
		}
	}
	for _, m := range []api.Matrix{{A: most + 1}, {F: -most - 1}, {C: math.MinInt64}} {
		if x := state.New(m); x != nil {
			t.Errorf("New(%v) = %v", m, x)
		}
		if g := state.First(m); !state.Same(g, initial(m)) {
			t.Errorf("First(%v) = %v", m, g)
		}
	}
}

// Promises 44.1 and 44.2.
func TestNil(t *testing.T) {
	var x *state.Machine
	for _, o := range []api.Op{op("q"), op("Q"), op("x"), ints("w", 1), op("w"), {}} {
		if e := x.Do(o); e != api.ErrArg {
			t.Errorf("Do(%v) of no machine = %d", o, e)
		}
	}
	if g := x.State(); !state.Same(g, api.Graphics{}) || x.Depth() != 0 {
		t.Errorf("no machine has the state %v and the depth %d", g, x.Depth())
	}
}

// full is a state all of whose fields are set.
func full() api.Graphics {
	return api.Graphics{
		Ctm: api.Matrix{A: 1, B: 2, C: 3, D: 4, E: 5, F: 6}, Width: 7, Cap: 8, Join: 9, Miter: 10, Dash: []int64{11, 12}, Phase: 13,
		Fill: api.Color{Space: 14, A: 15, B: 16, C: 17, D: 18}, Stroke: api.Color{Space: 19, A: 20, B: 21, C: 22, D: 23},
		Text: api.TextState{Char: 24, Word: 25, Scale: 26, Leading: 27, Size: 28, Rise: 29, Font: "30", Mode: 31},
	}
}

// Promise 44.1.
func TestSame(t *testing.T) {
	if !state.Same(full(), full()) || !state.Same(api.Graphics{}, api.Graphics{Dash: []int64{}}) || state.Same(full(), api.Graphics{}) {
		t.Error("equal states differ, or others don't")
	}
	for i, change := range []func(g *api.Graphics){
		func(g *api.Graphics) { g.Ctm.A++ }, func(g *api.Graphics) { g.Ctm.B++ }, func(g *api.Graphics) { g.Ctm.C++ }, func(g *api.Graphics) { g.Ctm.D++ }, func(g *api.Graphics) { g.Ctm.E++ }, func(g *api.Graphics) { g.Ctm.F++ },
		func(g *api.Graphics) { g.Width++ }, func(g *api.Graphics) { g.Cap++ }, func(g *api.Graphics) { g.Join++ }, func(g *api.Graphics) { g.Miter++ }, func(g *api.Graphics) { g.Phase++ },
		func(g *api.Graphics) { g.Dash = nil }, func(g *api.Graphics) { g.Dash = g.Dash[:1] }, func(g *api.Graphics) { g.Dash[1]++ }, func(g *api.Graphics) { g.Dash[0]++ }, func(g *api.Graphics) { g.Dash = append(g.Dash, 0) },
		func(g *api.Graphics) { g.Fill.Space++ }, func(g *api.Graphics) { g.Fill.A++ }, func(g *api.Graphics) { g.Fill.B++ }, func(g *api.Graphics) { g.Fill.C++ }, func(g *api.Graphics) { g.Fill.D++ },
		func(g *api.Graphics) { g.Stroke.Space++ }, func(g *api.Graphics) { g.Stroke.A++ }, func(g *api.Graphics) { g.Stroke.B++ }, func(g *api.Graphics) { g.Stroke.C++ }, func(g *api.Graphics) { g.Stroke.D++ },
		func(g *api.Graphics) { g.Text.Char++ }, func(g *api.Graphics) { g.Text.Word++ }, func(g *api.Graphics) { g.Text.Scale++ }, func(g *api.Graphics) { g.Text.Leading++ }, func(g *api.Graphics) { g.Text.Size++ }, func(g *api.Graphics) { g.Text.Rise++ }, func(g *api.Graphics) { g.Text.Font += "x" }, func(g *api.Graphics) { g.Text.Mode++ },
	} {
		a, b := full(), full()
		change(&b)
		if state.Same(a, b) || state.Same(b, a) {
			t.Errorf("states with change %d are the same", i)
		}
	}
}

// Promise 44.2: the effects of the operators.
func TestDo(t *testing.T) {
	with := func(change func(g *api.Graphics)) api.Graphics {
		g := initial(some())
		change(&g)
		return g
	}
	gray, rgb, cmyk := api.SpaceGray, api.SpaceRGB, api.SpaceCMYK
	for i, c := range []struct {
		o    api.Op
		want api.Graphics
	}{
		{ints("cm", 1, 0, 0, 1, 0, 0), initial(some())}, {units("cm", 20000, 0, 0, 30000, 10000, 20000), with(func(g *api.Graphics) {
			g.Ctm = api.Matrix{A: 40000, B: 2, C: -21, D: 90000, E: 100 + 20000 - 14, F: -200 + 1 + 60000}
		})}, {ints("cm", 0, 0, 0, 0, 0, 0), with(func(g *api.Graphics) { g.Ctm = api.Matrix{E: 100, F: -200} })},
		{ints("w", 2), with(func(g *api.Graphics) { g.Width = 20000 })}, {units("w", 0), with(func(g *api.Graphics) { g.Width = 0 })}, {units("w", most), with(func(g *api.Graphics) { g.Width = most })}, {units("M", 12345), with(func(g *api.Graphics) { g.Miter = 12345 })}, {ints("M", 0), with(func(g *api.Graphics) { g.Miter = 0 })},
		{ints("J", 1), with(func(g *api.Graphics) { g.Cap = 1 })}, {units("J", 20000), with(func(g *api.Graphics) { g.Cap = 2 })}, {ints("J", 0), initial(some())}, {ints("j", 2), with(func(g *api.Graphics) { g.Join = 2 })}, {units("j", 10000), with(func(g *api.Graphics) { g.Join = 1 })}, {ints("j", 0), initial(some())},
		{dash(value.Int(3), value.Int(1), value.Real(5)), with(func(g *api.Graphics) { g.Dash, g.Phase = []int64{10000, 5}, 30000 })}, {dash(value.Real(7)), with(func(g *api.Graphics) { g.Phase = 7 })}, {dash(value.Int(0), value.Int(0), value.Int(0)), with(func(g *api.Graphics) { g.Dash = []int64{0, 0} })}, {dash(value.Int(0), slices.Repeat([]api.Object{value.Int(1)}, api.MaxArgs)...), with(func(g *api.Graphics) { g.Dash = slices.Repeat([]int64{10000}, 32) })},
		{ints("i", 50), initial(some())}, {ints("i", -1), initial(some())}, {ints("i", api.MaxInt), initial(some())}, {units("i", math.MinInt64), initial(some())}, {op("ri", value.Name("x")), initial(some())}, {op("ri", value.Name("\x00")), initial(some())}, {op("gs", value.Name("G")), initial(some())},
		{units("g", 5000), with(func(g *api.Graphics) { g.Fill = api.Color{Space: gray, A: 5000} })}, {ints("G", 1), with(func(g *api.Graphics) { g.Stroke = api.Color{Space: gray, A: 10000} })},
		{units("rg", 0, 5000, 10000), with(func(g *api.Graphics) { g.Fill = api.Color{Space: rgb, B: 5000, C: 10000} })}, {units("RG", 1, 2, 3), with(func(g *api.Graphics) { g.Stroke = api.Color{Space: rgb, A: 1, B: 2, C: 3} })},
		{units("k", 1, 2, 3, 4), with(func(g *api.Graphics) { g.Fill = api.Color{Space: cmyk, A: 1, B: 2, C: 3, D: 4} })}, {ints("K", 1, 0, 1, 1), with(func(g *api.Graphics) { g.Stroke = api.Color{Space: cmyk, A: 10000, C: 10000, D: 10000} })},
		{ints("Tc", -3), with(func(g *api.Graphics) { g.Text.Char = -30000 })}, {units("Tw", most), with(func(g *api.Graphics) { g.Text.Word = most })}, {ints("Tz", 50), with(func(g *api.Graphics) { g.Text.Scale = 500000 })}, {units("TL", -most), with(func(g *api.Graphics) { g.Text.Leading = -most })}, {units("Ts", 1), with(func(g *api.Graphics) { g.Text.Rise = 1 })},
		{op("Tf", value.Name("F"), value.Int(-9)), with(func(g *api.Graphics) { g.Text.Font, g.Text.Size = "F", -90000 })}, {op("Tf", value.Name(""), value.Real(5)), with(func(g *api.Graphics) { g.Text.Size = 5 })},
		{ints("Tr", 7), with(func(g *api.Graphics) { g.Text.Mode = 7 })}, {units("Tr", 30000), with(func(g *api.Graphics) { g.Text.Mode = 3 })}, {ints("Tr", 0), initial(some())},
	} {
		x := state.New(some())
		if e := x.Do(c.o); e != api.OK || !state.Same(x.State(), c.want) || x.Depth() != 0 {
			t.Errorf("Do %d (%v) = %d, and the state is %v, want %v", i, c.o, e, x.State(), c.want)
		}
	}
}

// Promise 44.2: what an operator sets, it sets whole.
func TestDoReplaces(t *testing.T) {
	x := state.New(matrix.One())
	want := initial(matrix.One())
	for _, o := range []api.Op{ints("k", 1, 1, 1, 1), ints("K", 1, 1, 1, 1), dash(value.Int(1), value.Int(1), value.Int(2)), op("Tf", value.Name("F"), value.Int(1)), units("rg", 0, 0, 1), units("G", 0), dash(value.Int(0), value.Int(3)), op("Tf", value.Name("G"), value.Int(2))} {
		if e := x.Do(o); e != api.OK {
			t.Errorf("Do(%v) = %d", o, e)
		}
	}
	want.Fill, want.Stroke, want.Dash = api.Color{Space: api.SpaceRGB, C: 1}, api.Color{Space: api.SpaceGray}, []int64{30000}
	want.Text.Font, want.Text.Size = "G", 20000
	if g := x.State(); !state.Same(g, want) {
		t.Errorf("the state is %v, want %v", g, want)
	}
}

// wrongOps are operators that return an error in any state, and that error.
func wrongOps() []struct {
	o    api.Op
	want api.Errno
} {
	one, far, name := value.Int(1), value.Int(api.MaxInt), value.Name("A")
	many := slices.Repeat([]api.Object{one}, api.MaxArgs+1)
	return []struct {
		o    api.Op
		want api.Errno
	}{
		{op(""), api.ErrNone}, {op("x", one), api.ErrNone}, {op("?"), api.ErrNone}, {op("m", one, one), api.ErrNone}, {op("m"), api.ErrNone}, {op("BT"), api.ErrNone}, {op("ET"), api.ErrNone}, {op("Td", one, one), api.ErrNone}, {ints("TD", 1, 1), api.ErrNone}, {ints("Tm", 1, 0, 0, 1, 0, 0), api.ErrNone}, {op("T*"), api.ErrNone}, {op("Tj", value.String("a")), api.ErrNone}, {op("cs", name), api.ErrNone}, {op("Do", name), api.ErrNone}, {op("BI", sample.Dict("")), api.ErrNone}, {op("W"), api.ErrNone}, {op("n"), api.ErrNone}, {op("D", one), api.ErrNone}, {op("Cm"), api.ErrNone}, {op("T"), api.ErrNone}, {api.Op{Name: "f", Data: "d"}, api.ErrNone}, {op("sh", name), api.ErrNone},
		// The errors of ops.Check.
		{op("q", one), api.ErrOp}, {op("Q", one), api.ErrOp}, {ints("cm", 1, 0, 0, 1, 0), api.ErrOp}, {op("cm", one, one, one, one, one, name), api.ErrOp}, {op("w"), api.ErrOp}, {op("w", name), api.ErrOp}, {op("i"), api.ErrOp}, {op("i", name), api.ErrOp}, {op("ri", one), api.ErrOp}, {op("ri"), api.ErrOp}, {op("gs", one), api.ErrOp}, {op("g", one, one), api.ErrOp}, {op("rg", one, one), api.ErrOp}, {op("k", one, one, one), api.ErrOp}, {op("d", one, one), api.ErrOp}, {op("d", sample.Array()), api.ErrOp}, {op("d", sample.Array(), name), api.ErrOp}, {op("Tf", one, name), api.ErrOp}, {op("Tf", value.String("F"), one), api.ErrOp}, {op("Tr", value.Null()), api.ErrOp}, {op("w", sample.Ref(1, 0)), api.ErrOp},
		{api.Op{Name: "q", Data: "d"}, api.ErrForm}, {api.Op{Name: "i", Args: []api.Object{one}, Data: "d"}, api.ErrForm}, {api.Op{Name: "w", Args: []api.Object{far}, Data: "d"}, api.ErrForm}, {api.Op{Name: "w", Args: []api.Object{name}, Data: "d"}, api.ErrOp},
		// Numbers that are out of range.
		{op("w", far), api.ErrRange}, {op("M", far), api.ErrRange}, {op("J", far), api.ErrRange}, {op("j", far), api.ErrRange}, {op("g", far), api.ErrRange}, {op("Tc", far), api.ErrRange}, {op("Tw", value.Int(-107375)), api.ErrRange}, {op("Tz", value.Real(most+1)), api.ErrRange}, {op("TL", value.Real(-most-1)), api.ErrRange}, {op("Ts", value.Int(math.MinInt64)), api.ErrRange}, {op("Tf", name, far), api.ErrRange}, {op("Tr", far), api.ErrRange}, {op("cm", one, one, one, one, one, far), api.ErrRange}, {op("cm", value.Real(-most-1), one, one, one, one, one), api.ErrRange}, {dash(far), api.ErrRange}, {dash(one, far), api.ErrRange}, {op("k", one, one, one, far), api.ErrRange},
		{units("w", -1), api.ErrRange}, {ints("M", -1), api.ErrRange}, {units("J", 10001), api.ErrRange}, {units("J", 1), api.ErrRange}, {ints("J", 3), api.ErrRange}, {ints("J", -1), api.ErrRange}, {units("j", 19999), api.ErrRange}, {ints("j", 3), api.ErrRange}, {ints("j", -1), api.ErrRange}, {ints("Tr", 8), api.ErrRange}, {ints("Tr", -1), api.ErrRange}, {units("Tr", 35000), api.ErrRange}, {units("Tr", -10000), api.ErrRange},
		{units("g", 10001), api.ErrRange}, {units("G", -1), api.ErrRange}, {units("rg", 0, 0, 10001), api.ErrRange}, {units("RG", -1, 0, 0), api.ErrRange}, {units("k", 0, 10001, 0, 0), api.ErrRange}, {ints("K", 0, 0, 0, 2), api.ErrRange}, {ints("K", 0, 0, -1, 0), api.ErrRange},
		{dash(units("", -1).Args[0]), api.ErrRange}, {dash(one, value.Int(-1)), api.ErrRange}, {dash(one, one, value.Real(-1)), api.ErrRange}, {dash(one, name), api.ErrOp}, {dash(one, value.Null()), api.ErrOp}, {dash(one, one, sample.Array()), api.ErrOp}, {dash(one, sample.Ref(1, 0)), api.ErrOp}, {dash(one, many...), api.ErrMany},
		// The one that is named first.
		{dash(far, append(many, name)...), api.ErrMany}, {dash(value.Int(-1), value.Int(-1), far, name), api.ErrOp}, {dash(far, name), api.ErrOp},
	}
}

// Promises 44.2 and 44.3: errors, after which the machine is as before.
func TestDoErrors(t *testing.T) {
	for _, depth := range []int{0, 1, api.MaxSaved} {
		x := state.New(some())
		x.Do(dash(value.Int(1), value.Int(2)))
		for range depth {
			x.Do(op("q"))
		}
		x.Do(ints("w", 9))
		was := x.State()
		for i, c := range wrongOps() {
			if e := x.Do(c.o); e != c.want || !state.Same(x.State(), was) || x.Depth() != depth {
				t.Errorf("Do %d (%v) = %d, want %d, and the state is %v at depth %d", i, c.o, e, c.want, x.State(), x.Depth())
			}
		}
	}
}

// Promise 44.2: the matrix that cm can't make.
func TestCtmOutOfRange(t *testing.T) {
	x := state.New(matrix.Scale(most, most))
	for _, o := range []api.Op{ints("cm", 2, 0, 0, 1, 0, 0), ints("cm", 1, 0, 0, 1, 0, 2), units("cm", 10001, 0, 0, 0, 0, 0)} {
		if e := x.Do(o); e != api.ErrRange || x.State().Ctm != matrix.Scale(most, most) {
			t.Errorf("Do(%v) = %d, and the state is %v", o, e, x.State())
		}
	}
	if e := x.Do(ints("cm", 0, 1, 1, 0, 0, 0)); e != api.OK || x.State().Ctm != (api.Matrix{B: most, C: most}) {
		t.Errorf("the state is %v, %d", x.State(), e)
	}
	// The operator's matrix is applied first.
	x = state.New(matrix.Scale(2*api.One, 3*api.One))
	x.Do(ints("cm", 1, 0, 0, 1, 10, 20))
	if m := x.State().Ctm; m != (api.Matrix{A: 20000, D: 30000, E: 200000, F: 600000}) {
		t.Errorf("the matrix is %v", m)
	}
}

// Promise 44.2, by the example of the chapter, and with as many states as can be saved.
func TestSave(t *testing.T) {
	x := state.New(matrix.One())
	for i, c := range []struct {
		o     api.Op
		err   api.Errno
		width int64
		depth int
	}{
		{op("Q"), api.ErrState, 10000, 0}, {op("q"), api.OK, 10000, 1}, {ints("w", 2), api.OK, 20000, 1}, {op("Q"), api.OK, 10000, 0}, {op("Q"), api.ErrState, 10000, 0},
	} {
		if e := x.Do(c.o); e != c.err || x.State().Width != c.width || x.Depth() != c.depth {
			t.Errorf("step %d: %d, width %d, depth %d", i, e, x.State().Width, x.Depth())
		}
	}
	for n := range 28 {
		if e := x.Do(op("q")); e != api.OK || x.Depth() != n+1 {
			t.Errorf("q %d = %d, and the depth is %d", n, e, x.Depth())
		}
		x.Do(units("w", int64(n)))
	}
	if e := x.Do(op("q")); e != api.ErrMany || x.Depth() != 28 {
		t.Errorf("one q too many = %d, and the depth is %d", e, x.Depth())
	}
	for n := range 28 {
		want := int64(27 - n - 1)
		if want < 0 {
			want = 10000
		}
		if e := x.Do(op("Q")); e != api.OK || x.State().Width != want || x.Depth() != 27-n {
			t.Errorf("Q %d = %d, and the width is %d", n, e, x.State().Width)
		}
	}
}

// Results share no memory with the machine, nor does the machine with operands.
func TestMemory(t *testing.T) {
	x := state.New(matrix.One())
	list := []api.Object{value.Int(1), value.Int(2)}
	x.Do(dash(value.Int(0), list...))
	x.Do(op("q"))
	list[0].N = 9
	g := x.State()
	g.Dash[0], g.Width = 7, 7
	again := x.State()
	x.Do(op("Q"))
	if !slices.Equal(again.Dash, []int64{10000, 20000}) || again.Width != 10000 || !state.Same(x.State(), again) {
		t.Errorf("the state is %v, and then %v", again, x.State())
	}
	again.Dash = append(again.Dash[:1], 5)
	if !slices.Equal(x.State().Dash, []int64{10000, 20000}) {
		t.Errorf("the state is %v", x.State())
	}
}

// model does what a machine does, by the words of the chapter.
type model struct {
	now   api.Graphics
	saved []api.Graphics
}

// do does what Do does. The numbers are read by ops.Nums, whose error is that of a number as well.
func (x *model) do(o api.Op) api.Errno {
	const names = " q Q cm w M J j d i ri gs g G rg RG k K Tc Tw Tz TL Ts Tf Tr "
	if !slices.Contains(slices.Collect(fields(names)), o.Name) {
		return api.ErrNone
	}
	if e := ops.Check(o); e != api.OK {
		return e
	}
	numbers := slices.DeleteFunc(slices.Clone(o.Args), func(o api.Object) bool { return o.Kind != api.KInt && o.Kind != api.KReal })
	n, e := ops.Nums(op("", numbers...))
	if o.Name != "i" && o.Name != "d" && e != api.OK {
		return e
	}
	g := x.now
	switch o.Name {
	case "q":
		if len(x.saved) == 28 {
			return api.ErrMany
		}
		x.saved = append(slices.Clone(x.saved), g)
	case "Q":
		if len(x.saved) == 0 {
			return api.ErrState
		}
		g, x.saved = x.saved[len(x.saved)-1], x.saved[:len(x.saved)-1]
	case "cm":
		if g.Ctm, e = matrix.Mul(api.Matrix{A: n[0], B: n[1], C: n[2], D: n[3], E: n[4], F: n[5]}, g.Ctm); e != api.OK {
			return e
		}
	case "w", "M":
		if n[0] < 0 {
			return api.ErrRange
		}
		*map[string]*int64{"w": &g.Width, "M": &g.Miter}[o.Name] = n[0]
	case "J", "j", "Tr":
		last := map[string]int64{"J": 2, "j": 2, "Tr": 7}[o.Name]
		if n[0]%10000 != 0 || n[0] < 0 || n[0]/10000 > last {
			return api.ErrRange
		}
		*map[string]*int{"J": &g.Cap, "j": &g.Join, "Tr": &g.Text.Mode}[o.Name] = int(n[0] / 10000)
	case "d":
		list, listErr := ops.Nums(op("", o.Args[0].Kids...))
		switch {
		case len(o.Args[0].Kids) > 32:
			return api.ErrMany
		case slices.ContainsFunc(o.Args[0].Kids, func(o api.Object) bool { return o.Kind != api.KInt && o.Kind != api.KReal }):
			return api.ErrOp
		case listErr != api.OK || e != api.OK || slices.ContainsFunc(append(list, n...), func(n int64) bool { return n < 0 }):
			return api.ErrRange
		}
		g.Dash, g.Phase = list, n[0]
	case "g", "G", "rg", "RG", "k", "K":
		if slices.ContainsFunc(n, func(n int64) bool { return n < 0 || n > 10000 }) {
			return api.ErrRange
		}
		c := api.Color{Space: map[int]int{1: api.SpaceGray, 3: api.SpaceRGB, 4: api.SpaceCMYK}[len(n)]}
		n = append(n, 0, 0, 0)
		c.A, c.B, c.C, c.D = n[0], n[1], n[2], n[3]
		*map[bool]*api.Color{true: &g.Fill, false: &g.Stroke}[o.Name[0] >= 'a'] = c
	case "Tf":
		g.Text.Font, g.Text.Size = o.Args[0].S, n[0]
	case "Tc", "Tw", "Tz", "TL", "Ts":
		*map[string]*int64{"Tc": &g.Text.Char, "Tw": &g.Text.Word, "Tz": &g.Text.Scale, "TL": &g.Text.Leading, "Ts": &g.Text.Rise}[o.Name] = n[0]
	}
	x.now = g
	return api.OK
}

// fields yields the words of s.
func fields(s string) func(yield func(string) bool) {
	return func(yield func(string) bool) {
		word := ""
		for _, c := range s {
			if c != ' ' {
				word += string(c)
			} else if word != "" {
				if !yield(word) {
					return
				}
				word = ""
			}
		}
	}
}

// mixer makes choices that look irregular and are always the same.
type mixer uint32

// pick chooses a number from 0 to below, not included.
func (x *mixer) pick(below int) int {
	*x = *x*1664525 + 1013904223
	return int(*x>>8) % below
}

// number returns a number, which is rarely out of range.
func (x *mixer) number() api.Object {
	if x.pick(60) == 0 {
		return []api.Object{value.Int(api.MaxInt), value.Real(most + 1), value.Real(-most), value.Real(most)}[x.pick(4)]
	}
	if x.pick(6) == 0 {
		return []api.Object{value.Int(int64(x.pick(9)) - 2), value.Real(int64(x.pick(9)) - 2), value.Real(int64(x.pick(40000)) - 10000)}[x.pick(3)]
	}
	return []api.Object{value.Int(int64(x.pick(2))), value.Real(int64(x.pick(10001)))}[x.pick(2)]
}

// operator returns an operator, which is rarely wrong.
func (x *mixer) operator() api.Op {
	names := slices.Collect(fields("q Q q Q q Q q Q q q cm w M J j d i ri gs g G rg RG k K Tc Tw Tz TL Ts Tf Tr x BT m "))
	o := op(names[x.pick(len(names))])
	for _, letter := range ops.Takes(o.Name) {
		switch letter {
		case 'n':
			o.Args = append(o.Args, x.number())
		case 'N':
			o.Args = append(o.Args, value.Name("F"+strconv.Itoa(x.pick(3))))
		case 'a':
			list := sample.Array()
			for range x.pick(5) * x.pick(8) * x.pick(2) {
				list.Kids = append(list.Kids, x.number())
			}
			if x.pick(20) == 0 {
				list.Kids = append(list.Kids, value.Null())
			}
			o.Args = append(o.Args, list)
		}
	}
	switch x.pick(80) {
	case 0:
		o.Args = append(o.Args, x.number())
	case 1:
		o.Data = "d"
	}
	return o
}

// Promises 44.2 and 44.3, by the words of the chapter.
func TestDoByTheWords(t *testing.T) {
	x, found := mixer(44), map[api.Errno]int{}
	for range 300 {
		got, want := state.New(some()), model{now: initial(some())}
		for range 400 {
			o := x.operator()
			wantErr := want.do(o)
			e := got.Do(o)
			if e != wantErr || !state.Same(got.State(), want.now) || got.Depth() != len(want.saved) {
				t.Fatalf("Do(%v) = %d, want %d, and the state is %v, want %v", o, e, wantErr, got.State(), want.now)
			}
			found[e]++
		}
	}
	for _, e := range []api.Errno{api.OK, api.ErrNone, api.ErrOp, api.ErrForm, api.ErrRange, api.ErrState, api.ErrMany} {
		if found[e] < 100 {
			t.Errorf("the errors are %v", found)
		}
	}
}

// Promise 44.3: equally many q and Q restore the state, whatever was done in between.
func TestRestore(t *testing.T) {
	x := mixer(45)
	for range 500 {
		m := state.New(some())
		for range x.pick(30) {
			m.Do(x.operator())
		}
		was, depth := m.State(), m.Depth()
		if m.Do(op("q")) != api.OK {
			continue
		}
		for range x.pick(60) {
			o := x.operator()
			if o.Name == "Q" && m.Depth() == depth+1 {
				continue
			}
			m.Do(o)
		}
		for m.Depth() > depth {
			if e := m.Do(op("Q")); e != api.OK {
				t.Fatalf("Q = %d", e)
			}
		}
		if !state.Same(m.State(), was) {
			t.Errorf("the state is %v, want %v", m.State(), was)
		}
	}
}
