package desk_test

import (
	"fmt"
	"slices"
	"strings"
	"testing"
	"time"

	"foliant/api"
	"foliant/catalog"
	"foliant/desk"
	"foliant/dest"
	"foliant/docs"
	"foliant/field"
	"foliant/linear"
	"foliant/load"
	"foliant/outline"
	"foliant/pages"
	"foliant/sample"
	"foliant/script"
	"foliant/value"
	"foliant/whole"
)

// brief shows the beginning of anything.
func brief(x any) string { return fmt.Sprintf("%.700s", fmt.Sprintf("%q", fmt.Sprint(x))) }

// same reports whether two results are equal.
func same(a, b api.Answer) bool {
	return a.Err == b.Err && a.N == b.N && slices.Equal(a.Lines, b.Lines)
}

// ok returns a result without an error.
func ok(n int, lines ...string) api.Answer { return api.Answer{N: n, Lines: lines} }

// failed returns a result with an error.
func failed(e api.Errno) api.Answer { return api.Answer{Err: e} }

// trial is a line of a script, and the result that its step should have.
type trial struct {
	line string
	want api.Answer
}

// try performs the steps of trials on a desk.
func try(t *testing.T, x *desk.Desk, l ...trial) {
	t.Helper()
	for i, c := range l {
		s, e := script.Parse(c.line)
		if e != api.OK {
			t.Fatalf("%q is no line", c.line)
		}
		doc, saved := x.Doc(), x.Saved()
		got := x.Do(s)
		if !same(got, c.want) {
			t.Errorf("step %d, %s: %v, want %v", i, brief(c.line), brief(got), brief(c.want))
		}
		if got.Err != api.OK && (!docs.Same(x.Doc(), doc) || x.Saved() != saved) {
			t.Errorf("step %d, %s, has failed and changed the desk", i, brief(c.line))
		}
	}
}

// made returns a desk on which the steps of a script were performed.
func made(t *testing.T, lines ...string) *desk.Desk {
	t.Helper()
	x := desk.New()
	for _, line := range lines {
		s, e := script.Parse(line)
		if a := x.Do(s); e != api.OK || a.Err != api.OK {
			t.Fatalf("%q has the errors %d, %d", line, e, a.Err)
		}
	}
	return x
}

// opened returns a desk on which a document was opened.
func opened(t *testing.T, d api.Doc) *desk.Desk {
	t.Helper()
	file, e := whole.File(d)
	x := desk.New()
	if a := x.Do(api.Step{Kind: api.StepOpen, S: file}); e != api.OK || !same(a, ok(len(d.Items))) {
		t.Fatalf("open: %d, %v", e, a)
	}
	return x
}

// Promises 56.1 and 56.2, by the examples of the chapter and the document.
func TestExamples(t *testing.T) {
	x := made(t, "new 1", `insert 0 (BT /F1 10 Tf 5 5 Td \(hi\) Tj ET)`)
	try(t, x, trial{"text 0", ok(1, "hi")})
	if got, f := desk.Play("new 1\ncount\n"); !slices.Equal(got, []string{"ok 3 0", "ok 1 0"}) || f != (api.Fault{}) {
		t.Errorf("Play = %q, %v", got, f)
	}
	if got, f := desk.Play("so"); len(got) > 0 || f != (api.Fault{At: 1, Err: api.ErrLine}) {
		t.Errorf("Play = %q, %v", got, f)
	}
}

// Promise 56.1: a new desk, and none.
func TestNew(t *testing.T) {
	x := desk.New()
	if !docs.Same(x.Doc(), api.Doc{}) || x.Saved() != "" {
		t.Errorf("a new desk has %v, %q", x.Doc(), x.Saved())
	}
	for _, line := range []string{"put 1 (7)", "put 0 (x)", "drop 1", "insert 0 ()", "remove 0", "move 0 0", "name (a) 0", "fill (a) (b)", "clean", "save 0", "save 4", "text 0", "find ()", "count", "object 1", "audit", "outline", "fields", "contents 0"} {
		try(t, x, trial{line, failed(api.ErrNone)})
	}
	try(t, x, trial{"reopen", failed(api.ErrLost)}, trial{"spoil 0 0", failed(api.ErrRange)}, trial{"open ()", failed(api.ErrLost)}, trial{"new 2049", failed(api.ErrRange)}, trial{"new 2048", ok(2050)}, trial{"new 0", ok(2)})
	for _, s := range []api.Step{{}, {Kind: 22}, {Kind: -1}, {Kind: api.StepCount, A: 1}, {Kind: api.StepNew, A: -1}, {Kind: api.StepOpen, S: strings.Repeat("s", api.MaxString+1)}, {Kind: api.StepNew, A: api.MaxInt + 1, B: 1}} {
		for _, x := range []*desk.Desk{desk.New(), x} {
			if a := x.Do(s); !same(a, failed(script.Check(s))) || a.Err == api.OK {
				t.Errorf("Do(%s) = %v", brief(s), a)
			}
		}
		if a := (*desk.Desk)(nil).Do(s); !same(a, failed(api.ErrArg)) {
			t.Errorf("without a desk Do(%s) = %v", brief(s), a)
		}
	}
	var none *desk.Desk
	if a := none.Do(api.Step{Kind: api.StepNew}); !same(a, failed(api.ErrArg)) || !docs.Same(none.Doc(), api.Doc{}) || none.Saved() != "" {
		t.Errorf("without a desk Do = %v", a)
	}
}

// Promise 56.1: open, new, save, reopen and spoil.
func TestFiles(t *testing.T) {
	x := desk.New()
	for _, n := range []int{0, 1, 20} {
		d, _ := catalog.New(n)
		try(t, x, trial{fmt.Sprintf("new %d", n), ok(n + 2)})
		if !docs.Same(x.Doc(), d) || x.Saved() != "" {
			t.Errorf("new %d has made %s", n, brief(x.Doc()))
		}
	}
	d, _ := catalog.New(3)
	table, _ := whole.File(d)
	quick, _ := linear.File(d)
	try(t, x, trial{"new 3", ok(5)}, trial{"save 3", failed(api.ErrNone)}, trial{"save 4", failed(api.ErrArg)}, trial{"save 2147483647", failed(api.ErrArg)}, trial{"save 0", ok(len(table))})
	if x.Saved() != table {
		t.Errorf("saved as %s", brief(x.Saved()))
	}
	try(t, x, trial{"save 3", ok(0)}, trial{"save 2", ok(len(quick))})
	if x.Saved() != quick {
		t.Errorf("saved as %s", brief(x.Saved()))
	}
	try(t, x, trial{"save 1", ok(0)})
	if got, e := load.Strict(x.Saved()); !docs.Same(got, d) || e != api.OK || !strings.Contains(x.Saved(), "ObjStm") {
		t.Errorf("saved as %s", brief(x.Saved()))
	}
	// An update of a file with another document in it, of which all is kept.
	try(t, x, trial{"save 0", ok(len(table))}, trial{"new 1", ok(3)}, trial{"save 3", ok(0)})
	if got, e := load.Strict(x.Saved()); !strings.HasPrefix(x.Saved(), table) || len(got.Items) != 3 || e != api.OK {
		t.Errorf("updated to %s", brief(x.Saved()))
	}
	try(t, x, trial{"new 7", ok(9)}, trial{"reopen", ok(3)}, trial{"count", ok(1)}, trial{"save 3", ok(0)})
	// A document that can't be saved in a form keeps the file that was saved before.
	try(t, x, trial{"new 0", ok(2)}, trial{"save 2", failed(api.ErrPage)}, trial{"reopen", ok(3)}, trial{"put 8191 (7)", ok(8191)}, trial{"save 1", failed(api.ErrFull)}, trial{"save 2", failed(api.ErrRange)})
}

// Promise 56.1: files that are broken.
func TestSpoil(t *testing.T) {
	x := made(t, "new 1", "save 0")
	good := x.Saved()
	at := strings.Index(good, "startxref") + len("startxref\n")
	n := len(good)
	try(t, x, trial{fmt.Sprintf("spoil %d 0", n), failed(api.ErrRange)}, trial{"spoil 2147483647 0", failed(api.ErrRange)}, trial{"spoil 0 256", failed(api.ErrRange)}, trial{fmt.Sprintf("spoil %d 256", n), failed(api.ErrRange)}, trial{"spoil 0 2147483647", failed(api.ErrRange)}, trial{fmt.Sprintf("spoil %d 255", n-1), ok(0)}, trial{fmt.Sprintf("spoil %d 57", at), ok(0)})
	want := []byte(good)
	want[n-1], want[at] = 255, 57
	if x.Saved() != string(want) || len(x.Doc().Items) != 3 {
		t.Errorf("spoiled to %s", brief(x.Saved()))
	}
	try(t, x, trial{"save 3", failed(api.ErrStart)}, trial{"new 2", ok(4)}, trial{"reopen", ok(3, "repaired")}, trial{"count", ok(1)}, trial{"save 0", ok(n)}, trial{"spoil 0 0", ok(0)}, trial{"reopen", ok(3, "repaired")})
	// A broken file can be opened as well as reopened, and spoiled without a document.
	y := desk.New()
	if a := y.Do(api.Step{Kind: api.StepOpen, S: string(want)}); !same(a, ok(3, "repaired")) || y.Saved() != string(want) {
		t.Errorf("open: %v", a)
	}
	try(t, y, trial{"open (x)", failed(api.ErrLost)}, trial{"count", ok(1)})
	_, e := load.Strict("%PDF-1.4")
	try(t, y, trial{"open (%PDF-1.4)", failed(api.ErrLost)}, trial{"reopen", ok(3, "repaired")}, trial{"save 3", failed(api.ErrStart)})
	if e != api.ErrStart {
		t.Errorf("a header has the error %d", e)
	}
}

// Promise 56.1: put, drop, object and clean.
func TestItems(t *testing.T) {
	x := made(t, "new 1")
	try(t, x,
		trial{"put 4 (<</B 2/A 1>>)", ok(4)}, trial{"object 4", ok(0, "0 <</A 1/B 2>>")}, trial{"put 4 ([4 0 R/x null])", ok(4)}, trial{"object 4", ok(0, "0 [4 0 R/x null]")}, trial{"put 9 (  7 % x\\012)", ok(9)}, trial{"object 9", ok(0, "0 7")}, trial{"object 5", failed(api.ErrNone)}, trial{"object 0", failed(api.ErrNone)}, trial{"object 2147483647", failed(api.ErrNone)},
		trial{"put 5 ()", failed(api.ErrEnd)}, trial{"put 5 (1 2)", failed(api.ErrForm)}, trial{"put 0 (x)", failed(api.ErrForm)}, trial{"put 0 (1)", failed(api.ErrRange)}, trial{"put 8192 (1)", failed(api.ErrRange)}, trial{"put 5 (1 0 R)", failed(api.ErrKind)}, trial{"put 1 (7)", failed(api.ErrTrail)}, trial{"put 8191 (null)", ok(8191)}, trial{"insert 0 ()", failed(api.ErrFull)}, trial{"drop 8191", ok(0)},
		trial{"drop 5", failed(api.ErrNone)}, trial{"drop 0", failed(api.ErrNone)}, trial{"drop 1", failed(api.ErrTrail)}, trial{"drop 9", ok(0)}, trial{"object 9", failed(api.ErrNone)},
		trial{"put 5 (<</OpenAction 6 0 R/Metadata 1/K 1>>)", ok(5)}, trial{"put 6 (null)", ok(6)}, trial{"clean", ok(3)}, trial{"clean", ok(0)}, trial{"put 1 (<</Pages 2 0 R/AA 5 0 R/PieceInfo 6 0 R/X 4 0 R>>)", ok(1)}, trial{"put 4 (<</JS 5 0 R/Y 7 0 R>>)", ok(4)}, trial{"put 5 (1)", ok(5)}, trial{"put 6 (1)", ok(6)}, trial{"put 7 (1)", ok(7)}, trial{"clean", ok(2)}, trial{"object 1", ok(0, "0 <</Pages 2 0 R/X 4 0 R>>")}, trial{"object 4", ok(0, "0 <</Y 7 0 R>>")}, trial{"object 5", failed(api.ErrNone)})
	// Generations stay, and a new item has none.
	d, _ := catalog.New(1)
	d.Items = append(d.Items, api.Item{Num: 4, Gen: 3}, api.Item{Num: 5, Gen: 65535, Obj: api.Object{Kind: api.KStream, Keys: []string{"K"}, Kids: []api.Object{value.Name("v")}, S: "data"}})
	x = opened(t, d)
	try(t, x, trial{"object 4", ok(0, "3 null")}, trial{"put 4 (true)", ok(4)}, trial{"object 4", ok(0, "3 true")}, trial{"object 5", ok(4, "65535 <</K/v>>")}, trial{"put 5 (5)", ok(5)}, trial{"object 5", ok(0, "65535 5")}, trial{"drop 5", ok(0)}, trial{"put 5 (5)", ok(5)}, trial{"object 5", ok(0, "0 5")})
}

// Promise 56.1: insert, remove, move, count, text, find, contents and name.
func TestPages(t *testing.T) {
	x := made(t, "new 0")
	say := func(s string) string {
		line, _ := script.Line(api.Step{Kind: api.StepInsert, S: "BT /F1 10 Tf 12 TL 0 50 Td (" + s + " 1) Tj (" + s + " two) ' ET"})
		return line[len("insert 0 "):]
	}
	try(t, x,
		trial{"count", ok(0)}, trial{"insert 0 " + say("a"), ok(4)}, trial{"insert 1 " + say("b"), ok(6)}, trial{"insert 0 " + say("c"), ok(8)}, trial{"insert 4 ()", failed(api.ErrRange)}, trial{"count", ok(3)},
		trial{"text 0", ok(2, "c 1", "c two")}, trial{"text 1", ok(2, "a 1", "a two")}, trial{"text 2", ok(2, "b 1", "b two")}, trial{"text 3", failed(api.ErrNone)}, trial{"contents 2", ok(7)}, trial{"contents 3", failed(api.ErrNone)},
		trial{"find (TWO)", ok(3, "0 1 2 5", "1 1 2 5", "2 1 2 5")}, trial{"find (b )", ok(2, "2 0 0 2", "2 1 0 2")}, trial{"find (x)", ok(0)}, trial{"find ()", failed(api.ErrArg)}, trial{"find (" + strings.Repeat("f", 4097) + ")", failed(api.ErrLong)},
		trial{"object 3", ok(len(say("a"))-len(`(\(\)\(\))`)+len("()()"), "0 <<>>")}, trial{"object 4", ok(0, "0 <</Contents 3 0 R/MediaBox[0 0 612 792]/Parent 2 0 R/Resources<</Font<</F1<</BaseFont/Helvetica/Subtype/Type1/Type/Font>>>>>>/Type/Page>>")},
		trial{"name (here) 1", ok(0)}, trial{"name (" + strings.Repeat("n", 4097) + ") 1", failed(api.ErrLong)}, trial{"name (here) 3", failed(api.ErrRange)}, trial{"name () 2", ok(0)},
		trial{"move 0 2", ok(3)}, trial{"text 2", ok(2, "c 1", "c two")}, trial{"move 2 0", ok(3)}, trial{"move 1 1", ok(3)}, trial{"move 0 3", failed(api.ErrRange)}, trial{"move 3 0", failed(api.ErrRange)}, trial{"move 1 2", ok(3)})
	if got, e := dest.Named(x.Doc(), "here"); got != (api.Dest{Page: 2, Kind: api.DestFit}) || e != api.OK {
		t.Errorf("the name leads to %v, %d", got, e)
	}
	try(t, x, trial{"remove 0", ok(2)}, trial{"text 0", ok(2, "b 1", "b two")}, trial{"remove 2", failed(api.ErrRange)}, trial{"remove 1", ok(1)}, trial{"remove 0", ok(0)}, trial{"remove 0", failed(api.ErrRange)}, trial{"find (a)", ok(0)})
	if _, e := dest.Named(x.Doc(), "here"); e != api.ErrNone {
		t.Errorf("the name of a page that is gone has the error %d", e)
	}
	try(t, x, trial{"insert 0 (BT)", ok(len(x.Doc().Items) + 5)}, trial{"text 0", failed(api.ErrState)}, trial{"contents 0", failed(api.ErrState)}, trial{"find (a)", failed(api.ErrState)}, trial{"put 2 (<<>>)", ok(2)}, trial{"count", failed(api.ErrPage)}, trial{"insert 0 ()", failed(api.ErrPage)}, trial{"remove 0", failed(api.ErrPage)}, trial{"move 0 0", failed(api.ErrPage)}, trial{"name (a) 0", failed(api.ErrPage)})
}

// Promise 56.1: fill, fields, outline and audit.
func TestRest(t *testing.T) {
	d, _ := catalog.New(2)
	try(t, opened(t, d), trial{"fields", ok(0)}, trial{"outline", ok(0)}, trial{"audit", ok(0)}, trial{"fill (a) (b)", failed(api.ErrNone)})
	box := api.Rect{X0: api.One, Y0: api.One, X1: 90 * api.One, Y1: 21 * api.One}
	for _, f := range []api.Field{{Name: "a(", Kind: api.FieldText, Value: "old"}, {Name: "b", Kind: api.FieldCheck, Value: "Off"}, {Name: "c", Kind: api.FieldChoice, Value: "x", Choices: []string{"x", "y\n"}}} {
		var e api.Errno
		if d, e = field.Add(d, 1, f, box); e != api.OK {
			t.Fatal(e)
		}
	}
	marks := []api.Mark{{Title: "a", Open: true, Kids: []api.Mark{{Title: "b"}, {Title: ""}}}, {Title: "c(\n"}}
	d, e := outline.Set(d, marks)
	if e != api.OK {
		t.Fatal(e)
	}
	x := opened(t, d)
	try(t, x,
		trial{"fields", ok(3, `(a\() 1 (old)`, "(b) 2 (Off)", "(c) 3 (x)")}, trial{`fill (a\() (new\))`, ok(0)}, trial{"fill (b) (Yes)", ok(0)}, trial{`fill (c) (y\012)`, ok(0)}, trial{"fields", ok(3, `(a\() 1 (new\))`, "(b) 2 (Yes)", `(c) 3 (y\012)`)},
		trial{"fill (b) (x)", failed(api.ErrNone)}, trial{"fill (d) (x)", failed(api.ErrNone)}, trial{`fill (a\() (` + strings.Repeat("v", 4097) + ")", failed(api.ErrLong)},
		trial{"outline", ok(4, "a", "  b", "  ", "c(\n")}, trial{"audit", ok(0)})
	for _, f := range []struct{ name, want string }{{"a(", "new)"}, {"b", "X"}} {
		l, _ := field.Read(x.Doc())
		got, _ := field.Find(l, f.name)
		n := docs.Path(x.Doc(), sample.Ref(got.Shows[0], 0), "AP", "N")
		if n.Kind != api.KStream || !strings.Contains(n.S, value.String(f.want).S[:1]) {
			t.Errorf("field %s shows %v", f.name, n)
		}
	}
	last := len(x.Doc().Items)
	try(t, x, trial{fmt.Sprintf("put %d ([99 0 R])", last+1), ok(last + 1)}, trial{"audit", ok(2, "reference 99 8", fmt.Sprintf("lost %d 8", last+1))}, trial{"put 1 (<</Pages 2 0 R/AcroForm 7/Outlines 7>>)", ok(1)}, trial{"fields", failed(api.ErrField)}, trial{"outline", failed(api.ErrKind)}, trial{"fill (b) (Yes)", failed(api.ErrField)})
	// A full name that is longer than a string may be.
	long := strings.Repeat("l", api.MaxString/2)
	nest := sample.Dict("FT T", value.Name("Tx"), value.String(long))
	d, _ = catalog.New(0)
	d.Items[0].Obj, _ = value.Set(d.Items[0].Obj, "AcroForm", sample.Dict("Fields", sample.Array(sample.Ref(3, 0))))
	d.Items = append(d.Items, api.Item{Num: 3, Obj: sample.Dict("Kids T", sample.Array(sample.Ref(4, 0)), value.String(long))}, api.Item{Num: 4, Obj: nest})
	x = made(t, "new 0")
	for _, i := range d.Items {
		x.Do(api.Step{Kind: api.StepPut, A: i.Num, S: text(t, i.Obj)})
	}
	try(t, x, trial{"fields", ok(1, "("+long+"."+long+") 1 ()")})
	x.Do(api.Step{Kind: api.StepPut, A: 4, S: text(t, sample.Dict("FT T", value.Name("Tx"), value.String(long+"l")))})
	try(t, x, trial{"fields", failed(api.ErrLong)})
}

// Promise 56.1: what is handed out shares no memory with the desk.
func TestDocIsACopy(t *testing.T) {
	x := made(t, "new 2", "put 5 ([1[2/a]<</K[3]>>])", "save 0")
	was := sample.Copy(x.Doc())
	sample.SpoilDoc(x.Doc())
	if !docs.Same(x.Doc(), was) {
		t.Errorf("the desk's document has changed: %s", brief(x.Doc()))
	}
	a := x.Do(api.Step{Kind: api.StepObject, A: 5})
	a.Lines[0] = "x"
	try(t, x, trial{"object 5", ok(0, "0 [1[2/a]<</K[3]>>]")})
}

// Promise 56.2: many steps.
func TestRun(t *testing.T) {
	count := api.Step{Kind: api.StepCount}
	l := []api.Step{{Kind: api.StepNew, A: 3}, count, {}, {Kind: api.StepRemove, A: 7}, {Kind: api.StepRemove, A: 1}, count}
	was := slices.Clone(l)
	got := desk.Run(l)
	if !slices.EqualFunc(got, []api.Answer{ok(5), ok(3), failed(api.ErrKind), failed(api.ErrRange), ok(2), ok(2)}, same) || !slices.Equal(l, was) {
		t.Errorf("Run = %v", got)
	}
	if got := desk.Run(nil); len(got) != 0 {
		t.Errorf("Run of no steps = %v", got)
	}
	for _, n := range []int{api.MaxSteps - 1, api.MaxSteps, api.MaxSteps + 1, 3 * api.MaxSteps} {
		if got := desk.Run(slices.Repeat([]api.Step{count}, n)); len(got) != min(n, api.MaxSteps) {
			t.Errorf("Run of %d steps has %d results", n, len(got))
		}
	}
	// Each run begins on a desk of its own.
	if got := desk.Run([]api.Step{count}); !slices.EqualFunc(got, []api.Answer{failed(api.ErrNone)}, same) {
		t.Errorf("Run = %v", got)
	}
}

// Promise 56.2: scripts.
func TestPlay(t *testing.T) {
	text := "# A page\n\nnew 1\ninsert 1 (BT /F1 9 Tf \\(one two\\) Tj 0 20 Td \\(up\\) Tj ET)\ntext 1\nremove 2\nfind (O)\n"
	want := []string{"ok 3 0", "ok 5 0", "ok 2 2", "up", "one two", "error 2", "ok 2 2", "1 1 0 1", "1 1 6 7"}
	if got, f := desk.Play(text); !slices.Equal(got, want) || f != (api.Fault{}) {
		t.Errorf("Play = %q, %v, want %q", got, f, want)
	}
	for _, c := range []struct {
		text string
		want api.Fault
	}{
		{text + "so", api.Fault{At: 8, Err: api.ErrLine}}, {"\n\n" + strings.Repeat("count\n", 257), api.Fault{At: 259, Err: api.ErrMany}}, {strings.Repeat("\n", api.MaxFile+1), api.Fault{Err: api.ErrLong}}, {"", api.Fault{}}, {"#", api.Fault{}},
	} {
		if got, f := desk.Play(c.text); len(got) > 0 || f != c.want {
			t.Errorf("Play(%s) = %q, %v, want %v", brief(c.text), got, f, c.want)
		}
	}
	if got, f := desk.Play(strings.Repeat("count\n", 256)); len(got) != 256 || f != (api.Fault{}) {
		t.Errorf("Play has %d lines, %v", len(got), f)
	}
}

// P5: the longest scripts.
func TestTakesNoLonger(t *testing.T) {
	begin := time.Now()
	l := []api.Step{{Kind: api.StepNew, A: 300}}
	kinds := []int{api.StepMove, api.StepName, api.StepFill, api.StepClean, api.StepText, api.StepFind, api.StepCount, api.StepObject, api.StepAudit, api.StepOutline, api.StepFields, api.StepContents}
	for len(l) < api.MaxSteps {
		l = append(l, api.Step{Kind: kinds[len(l)%len(kinds)]}, api.Step{Kind: api.StepInsert, A: 5, S: "BT /F1 10 Tf (one) Tj ET"}, api.Step{Kind: api.StepFind, S: "one"}, api.Step{Kind: api.StepSave, A: len(l) % 4}, api.Step{Kind: api.StepReopen})
	}
	for i, a := range desk.Run(l) {
		if a.Err != api.OK && l[i].Kind == api.StepInsert {
			t.Errorf("step %d has the error %d", i, a.Err)
			break
		}
	}
	if time.Since(begin) > 20*time.Second {
		t.Errorf("it took %v", time.Since(begin))
	}
	if n, e := pages.Count(made(t, "new 2048").Doc()); n != api.MaxPages || e != api.OK {
		t.Errorf("%d pages, %d", n, e)
	}
}
