package script_test

import (
	"fmt"
	"math"
	"slices"
	"strings"
	"testing"
	"time"

	"foliant/api"
	"foliant/plain"
	"foliant/sample"
	"foliant/script"
)

// brief shows the beginning of anything.
func brief(x any) string { return fmt.Sprintf("%.500s", fmt.Sprintf("%q", fmt.Sprint(x))) }

// lines returns the line of a step of each kind, from StepOpen on.
func lines() []string {
	return []string{"open (a)", "new 1", "put 1 (a)", "drop 1", "insert 1 (a)", "remove 1", "move 1 2", "name (a) 1", "fill (a) (b)", "clean", "save 1", "reopen", "text 1", "find (a)", "count", "object 1", "audit", "spoil 1 2", "outline", "fields", "contents 1"}
}

// steps returns the steps of these lines.
func steps() []api.Step {
	return []api.Step{{Kind: 1, S: "a"}, {Kind: 2, A: 1}, {Kind: 3, A: 1, S: "a"}, {Kind: 4, A: 1}, {Kind: 5, A: 1, S: "a"}, {Kind: 6, A: 1}, {Kind: 7, A: 1, B: 2}, {Kind: 8, S: "a", A: 1}, {Kind: 9, S: "a", T: "b"}, {Kind: 10}, {Kind: 11, A: 1}, {Kind: 12}, {Kind: 13, A: 1}, {Kind: 14, S: "a"}, {Kind: 15}, {Kind: 16, A: 1}, {Kind: 17}, {Kind: 18, A: 1, B: 2}, {Kind: 19}, {Kind: 20}, {Kind: 21, A: 1}}
}

// both checks that a step and a line belong together.
func both(t *testing.T, s api.Step, line string) {
	t.Helper()
	if e := script.Check(s); e != api.OK {
		t.Errorf("Check(%s) = %d", brief(s), e)
	}
	if got, e := script.Line(s); got != line || e != api.OK {
		t.Errorf("Line(%s) = %s, %d, want %s", brief(s), brief(got), e, brief(line))
	}
	if got, e := script.Parse(line); got != s || e != api.OK {
		t.Errorf("Parse(%s) = %s, %d, want %s", brief(line), brief(got), e, brief(s))
	}
}

// Promise 55.1, by the examples of the chapter.
func TestExamples(t *testing.T) {
	both(t, api.Step{Kind: api.StepPut, A: 4, S: "<</A ((x)>>"}, `put 4 (<</A \(\(x\)>>)`)
	both(t, api.Step{Kind: api.StepName, S: "a"}, "name (a) 0")
	both(t, api.Step{Kind: api.StepSave, A: 3}, "save 3")
}

// Promises 55.1 and 55.4: the lines of steps of all kinds.
func TestKinds(t *testing.T) {
	for i, s := range steps() {
		both(t, s, lines()[i])
	}
	for _, c := range []struct {
		s    api.Step
		line string
	}{
		{api.Step{Kind: api.StepOpen}, "open ()"}, {api.Step{Kind: api.StepNew}, "new 0"}, {api.Step{Kind: api.StepMove}, "move 0 0"}, {api.Step{Kind: api.StepFill}, "fill () ()"}, {api.Step{Kind: api.StepFill, T: "("}, `fill () (\()`}, {api.Step{Kind: api.StepPut}, "put 0 ()"}, {api.Step{Kind: api.StepMove, A: 10, B: api.MaxInt}, "move 10 2147483647"}, {api.Step{Kind: api.StepSpoil, A: api.MaxInt}, "spoil 2147483647 0"},
		{api.Step{Kind: api.StepFind, S: "\n#\r\\\x00 \xff~%"}, `find (\012#\015\\\000 \377~%)`}, {api.Step{Kind: api.StepOpen, S: strings.Repeat("s", api.MaxString)}, "open (" + strings.Repeat("s", api.MaxString) + ")"}, {api.Step{Kind: api.StepFill, S: "1", T: strings.Repeat("t", api.MaxString)}, "fill (1) (" + strings.Repeat("t", api.MaxString) + ")"},
		// The longest line.
		{api.Step{Kind: api.StepOpen, S: strings.Repeat("(", 32764)}, "open (" + strings.Repeat(`\(`, 32764) + ")"}, {api.Step{Kind: api.StepFill, S: strings.Repeat("s", api.MaxString), T: strings.Repeat("t", api.MaxString-13) + "\x00"}, "fill (" + strings.Repeat("s", api.MaxString) + ") (" + strings.Repeat("t", api.MaxString-13) + `\000)`},
	} {
		both(t, c.s, c.line)
	}
}

// Promise 55.1: errors of steps, in their order.
func TestCheck(t *testing.T) {
	long := strings.Repeat("s", api.MaxString+1)
	for _, c := range []struct {
		s    api.Step
		want api.Errno
	}{
		{api.Step{}, api.ErrKind}, {api.Step{Kind: -1}, api.ErrKind}, {api.Step{Kind: 22}, api.ErrKind}, {api.Step{Kind: math.MaxInt}, api.ErrKind}, {api.Step{Kind: math.MinInt}, api.ErrKind}, {api.Step{A: -1, S: long}, api.ErrKind},
		{api.Step{Kind: api.StepNew, A: -1, B: 1}, api.ErrKind}, {api.Step{Kind: api.StepFind, S: long, T: "t"}, api.ErrKind}, {api.Step{Kind: api.StepFill, A: -1}, api.ErrKind}, {api.Step{Kind: api.StepCount, S: long}, api.ErrKind},
		{api.Step{Kind: api.StepNew, A: -1}, api.ErrRange}, {api.Step{Kind: api.StepNew, A: api.MaxInt + 1}, api.ErrRange}, {api.Step{Kind: api.StepMove, A: math.MinInt, B: 1}, api.ErrRange}, {api.Step{Kind: api.StepMove, B: -1}, api.ErrRange}, {api.Step{Kind: api.StepMove, B: math.MaxInt}, api.ErrRange}, {api.Step{Kind: api.StepPut, A: -1, S: long}, api.ErrRange}, {api.Step{Kind: api.StepName, A: -1, S: long}, api.ErrRange}, {api.Step{Kind: api.StepInsert, A: api.MaxInt + 1}, api.ErrRange},
		{api.Step{Kind: api.StepOpen, S: long}, api.ErrLong}, {api.Step{Kind: api.StepFill, S: long}, api.ErrLong}, {api.Step{Kind: api.StepFill, T: long}, api.ErrLong}, {api.Step{Kind: api.StepInsert, S: long}, api.ErrLong},
	} {
		if e := script.Check(c.s); e != c.want {
			t.Errorf("Check(%s) = %d, want %d", brief(c.s), e, c.want)
		}
		if line, e := script.Line(c.s); line != "" || e != c.want {
			t.Errorf("Line(%s) = %s, %d, want %d", brief(c.s), brief(line), e, c.want)
		}
	}
	// The fields that each kind has, and that it hasn't.
	for _, s := range steps() {
		for i, more := range []func(s *api.Step){func(s *api.Step) { s.A = 7 }, func(s *api.Step) { s.B = 7 }, func(s *api.Step) { s.S = "x" }, func(s *api.Step) { s.T = "x" }} {
			want := api.ErrKind
			if [...]bool{s.A != 0, s.B != 0, s.S != "", s.T != ""}[i] {
				want = api.OK
			}
			changed := s
			more(&changed)
			if e := script.Check(changed); e != want {
				t.Errorf("Check(%v) = %d, want %d", changed, e, want)
			}
		}
	}
	// A valid step whose line is too long.
	for _, s := range []api.Step{{Kind: api.StepOpen, S: strings.Repeat("(", 32764) + "s"}, {Kind: api.StepOpen, S: strings.Repeat("\n", api.MaxString)}, {Kind: api.StepFill, S: strings.Repeat("s", api.MaxString), T: strings.Repeat("t", api.MaxString-8)}} {
		if e := script.Check(s); e != api.OK {
			t.Errorf("Check(%s) = %d", brief(s), e)
		}
		if line, e := script.Line(s); line != "" || e != api.ErrLong {
			t.Errorf("Line(%s) = %s, %d", brief(s), brief(line), e)
		}
	}
}

// Promise 55.1: texts that are the lines of no steps.
func TestNoLines(t *testing.T) {
	for _, line := range []string{
		"", " ", "#", "x", "so", "Count", "COUNT", "counts", "coun", "count ", " count", "count 0", "count ()", "count()", "count\r", "count\n", "\ncount", "count % ", "count%", "\x00", "count\x00", "(count)", "/count", "<636f756e74>", "none", "StepCount",
		"new", "new ", "new 1 ", "new  1", "new\t1", "new 1 1", "new 01", "new +1", "new -0", "new -1", "new 1.0", "new 1.", "new 2147483648", "new 99999999999999999999", "new (1)", "new x", "new 1x", "new1", "new [1]", "new 1%", "new /1",
		"open", "open ", "open(a)", "open  (a)", "open (a) ", "open (a", "open a)", "open (a))", "open ((a))", "open (a)(b)", "open (a) (b)", "open <61>", "open (a\n)", "open (\\n)", "open (\\141)", "open (\\0)", "open (\\12)", "open (\\a)", "open (\xff)", "open (\\377", "open a", "open /a", "open 1", "open (" + strings.Repeat("s", api.MaxString+1) + ")",
		"put (a) 1", "put 1", "put (a)", "put 1(a)", "put 1  (a)", "put 1 (a) 2", "put 1 2", "name 1 (a)", "name (a)", "name (a)1", "name (a) 1 2", "move 1", "move 1 2 3", "move (1) 2", "fill (a)", "fill (a)(b)", "fill (a)  (b)", "fill (a) (b) (c)", "fill a b", "fill (a) 1", "spoil 1 (2)", "spoil 1,2",
		"open (" + strings.Repeat("(", 65000), strings.Repeat("x", api.MaxLine), strings.Repeat(" ", api.MaxLine), "new " + strings.Repeat("0", api.MaxLine-4), ") count", "count )", "count <", "new 1 )",
	} {
		if s, e := script.Parse(line); s != (api.Step{}) || e != api.ErrLine {
			t.Errorf("Parse(%s) = %v, %d", brief(line), brief(s), e)
		}
	}
	for _, line := range []string{strings.Repeat("x", api.MaxLine+1), "count" + strings.Repeat(" ", api.MaxLine), "open (" + strings.Repeat(`\(`, 32764) + "s)", strings.Repeat("s", api.MaxFile+1)} {
		if s, e := script.Parse(line); s != (api.Step{}) || e != api.ErrLong {
			t.Errorf("Parse(%s) = %v, %d", brief(line), brief(s), e)
		}
	}
}

// mixer makes choices that look irregular and are always the same.
type mixer uint32

// pick chooses a number from 0 to below, not included.
func (x *mixer) pick(below int) int {
	*x = *x*1664525 + 1013904223
	return int(*x>>8) % below
}

// step returns a valid step, and its line by the words of the chapter.
func (x *mixer) step() (api.Step, string) {
	words := strings.Fields("open new put drop insert remove move name fill clean save reopen text find count object audit spoil outline fields contents")
	fields := strings.Split("S/A/AS/A/AS/A/AB/SA/ST//A//A/S//A//AB///A", "/")
	kind := 1 + x.pick(21)
	s, line := api.Step{Kind: kind}, words[kind-1]
	number := func(n *int) {
		*n = []int{0, 1, 7, 10, x.pick(100000), api.MaxInt}[x.pick(6)]
		line += fmt.Sprintf(" %d", *n)
	}
	text := func(s *string) {
		*s = []string{"", "a", "(", "\\)", "1 0 R", "# \n", sample.Bytes()}[x.pick(7)]
		code, _ := plain.String(*s)
		line += " " + code
	}
	for _, letter := range fields[kind-1] {
		switch letter {
		case 'A':
			number(&s.A)
		case 'B':
			number(&s.B)
		case 'S':
			text(&s.S)
		case 'T':
			text(&s.T)
		}
	}
	return s, line
}

// Promises 55.1 and 55.4, by the words of the chapter: steps have their lines, and what is like a line is one only if a step has it.
func TestByTheWords(t *testing.T) {
	x, same, other := mixer(55), 0, 0
	for range 5000 {
		s, line := x.step()
		both(t, s, line)
		for range 10 {
			at := x.pick(len(line) + 1)
			with := []string{"", " ", "0", "1", "(", ")", "\\", "a", "\n", "%", "e"}[x.pick(11)]
			near := line[:at] + with + line[min(len(line), at+x.pick(2)):]
			got, e := script.Parse(near)
			again, lineErr := script.Line(got)
			switch {
			case e == api.OK && lineErr == api.OK && again == near:
				same++
			case e == api.ErrLine && got == api.Step{}:
				other++
			default:
				t.Fatalf("Parse(%q) = %v, %d", near, got, e)
			}
		}
	}
	if same < 5000 || other < 20000 {
		t.Errorf("%d of the lines near others were lines, and %d were not", same, other)
	}
}

// Promises 55.2 and 55.4: texts of many steps, with comments and empty lines in between.
func TestTextAndRead(t *testing.T) {
	x := mixer(7)
	for range 300 {
		var l []api.Step
		text, mixed := "", ""
		for range x.pick(9) {
			s, line := x.step()
			l = append(l, s)
			text += line + "\n"
			mixed += []string{"", "\n", "# x\n\n", "#\n", "#new 1\n", "\n\n\n"}[x.pick(6)] + line + "\n"
		}
		if got, e := script.Text(l); got != text || e != api.OK {
			t.Fatalf("Text(%v) = %q, %d, want %q", l, got, e, text)
		}
		for _, s := range []string{text, mixed, strings.TrimSuffix(text, "\n"), mixed + "\n#", "\n" + text} {
			if got, f := script.Read(s); !slices.Equal(got, l) || f != (api.Fault{}) {
				t.Fatalf("Read(%q) = %v, %v, want %v", s, got, f, l)
			}
		}
	}
	for _, s := range []string{"", "\n", "\n\n", "#", "# so", "#\n#\n"} {
		if got, f := script.Read(s); len(got) > 0 || f != (api.Fault{}) {
			t.Errorf("Read(%q) = %v, %v", s, got, f)
		}
	}
	if got, e := script.Text(nil); got != "" || e != api.OK {
		t.Errorf("Text of no steps = %q, %d", got, e)
	}
}

// Promise 55.2: errors of texts, and the lines where they are.
func TestReadErrors(t *testing.T) {
	most := strings.Repeat("count\n", api.MaxSteps)
	long := strings.Repeat("x", api.MaxLine+1)
	for _, c := range []struct {
		text string
		at   int
		err  api.Errno
	}{
		{"so", 1, api.ErrLine}, {"count\nso\n", 2, api.ErrLine}, {"\n\n# a\nso\nx", 4, api.ErrLine}, {" ", 1, api.ErrLine}, {"count\n \n", 2, api.ErrLine}, {" # a", 1, api.ErrLine}, {"count\r\n", 1, api.ErrLine}, {"\r\n", 1, api.ErrLine}, {"count #", 1, api.ErrLine}, {"count\ncount\ncount\n(", 4, api.ErrLine},
		{long, 1, api.ErrLong}, {"count\n" + long + "\nso", 2, api.ErrLong}, {"so\n" + long, 1, api.ErrLine}, {"#" + long + "\nso", 2, api.ErrLine},
		{most + "count", 257, api.ErrMany}, {most + "so", 257, api.ErrMany}, {most + long, 257, api.ErrMany}, {"#\n\n" + most + "#\n\ncount\nso", 261, api.ErrMany}, {most[6:] + "so\ncount", 256, api.ErrLine}, {"so\n" + most + "count", 1, api.ErrLine},
		{strings.Repeat("\n", api.MaxFile) + "\n", 0, api.ErrLong}, {"so" + strings.Repeat("\n", api.MaxFile), 0, api.ErrLong}, {strings.Repeat("\n", api.MaxFile-2) + "so", api.MaxFile - 1, api.ErrLine},
	} {
		if l, f := script.Read(c.text); len(l) > 0 || f != (api.Fault{At: c.at, Err: c.err}) {
			t.Errorf("Read(%s) = %v, %v, want %d, %d", brief(c.text), l, f, c.at, c.err)
		}
	}
	for _, s := range []string{most, most + "#\n\n#", strings.Repeat("\n", api.MaxFile-len(most)) + most} {
		if l, f := script.Read(s); len(l) != api.MaxSteps || f != (api.Fault{}) {
			t.Errorf("Read(%s) = %v, %v", brief(s), l, f)
		}
	}
}

// Promise 55.2: errors of steps that have no text.
func TestTextErrors(t *testing.T) {
	good, wrong, long := api.Step{Kind: api.StepCount}, api.Step{}, api.Step{Kind: api.StepOpen, S: strings.Repeat("\n", api.MaxString)}
	most := slices.Repeat([]api.Step{good}, api.MaxSteps)
	for i, c := range []struct {
		l    []api.Step
		want api.Errno
	}{
		{[]api.Step{wrong}, api.ErrKind}, {[]api.Step{good, long, wrong}, api.ErrLong}, {[]api.Step{good, wrong, long}, api.ErrKind}, {[]api.Step{{Kind: api.StepNew, A: -1}}, api.ErrRange}, {append([]api.Step{wrong}, most...), api.ErrMany}, {append([]api.Step{good}, most...), api.ErrMany}, {append([]api.Step{wrong}, most[1:]...), api.ErrKind},
	} {
		if s, e := script.Text(c.l); s != "" || e != c.want {
			t.Errorf("Text %d = %q, %d, want %d", i, s, e, c.want)
		}
	}
	if s, e := script.Text(most); s != strings.Repeat("count\n", api.MaxSteps) || e != api.OK {
		t.Errorf("Text of the most steps = %s, %d", brief(s), e)
	}
}

// Promise 55.3: the lines of results.
func TestTell(t *testing.T) {
	for _, c := range []struct {
		a    api.Answer
		want []string
	}{
		{api.Answer{}, []string{"ok 0 0"}}, {api.Answer{N: 7}, []string{"ok 7 0"}}, {api.Answer{N: -7}, []string{"ok -7 0"}}, {api.Answer{N: math.MinInt}, []string{"ok -9223372036854775808 0"}}, {api.Answer{N: 1, Lines: []string{"a b", "", "ok"}}, []string{"ok 1 3", "a b", "", "ok"}},
		{api.Answer{Err: api.ErrLine}, []string{"error 33"}}, {api.Answer{Err: api.ErrArg, N: 7, Lines: []string{"a"}}, []string{"error 1"}}, {api.Answer{Err: -1}, []string{"error -1"}}, {api.Answer{Err: 1000}, []string{"error 1000"}},
	} {
		was := fmt.Sprint(c.a)
		got := script.Tell(c.a)
		if !slices.Equal(got, c.want) {
			t.Errorf("Tell(%v) = %q, want %q", c.a, got, c.want)
		}
		for i := range got {
			got[i] = "x"
		}
		if fmt.Sprint(c.a) != was {
			t.Errorf("Tell(%s) shares memory", was)
		}
	}
}

// P5: long lines, and many of them.
func TestTakesNoLonger(t *testing.T) {
	begin := time.Now()
	for _, s := range []string{strings.Repeat("\n", api.MaxFile), strings.Repeat("#\n", api.MaxFile/2), strings.Repeat("#", api.MaxFile)} {
		if l, f := script.Read(s); len(l) > 0 || f != (api.Fault{}) {
			t.Errorf("Read(%s) = %v, %v", brief(s), l, f)
		}
	}
	for range 200 {
		for _, c := range []string{"(", ")", "\\", "<", "/", "%", "0", " "} {
			if s, e := script.Parse("find " + strings.Repeat(c, api.MaxLine-5)); s != (api.Step{}) || e != api.ErrLine {
				t.Fatalf("Parse of many %q = %v, %d", c, s, e)
			}
		}
	}
	if time.Since(begin) > 10*time.Second {
		t.Errorf("it took %v", time.Since(begin))
	}
}
