package desk_test

import (
	"fmt"
	"slices"
	"strings"
	"testing"

	"foliant/api"
	"foliant/audit"
	"foliant/build"
	"foliant/catalog"
	"foliant/clean"
	"foliant/desk"
	"foliant/dest"
	"foliant/docs"
	"foliant/draw"
	"foliant/field"
	"foliant/linear"
	"foliant/load"
	"foliant/look"
	"foliant/outline"
	"foliant/pack"
	"foliant/pages"
	"foliant/parse"
	"foliant/plain"
	"foliant/sample"
	"foliant/script"
	"foliant/search"
	"foliant/update"
	"foliant/value"
	"foliant/whole"
	"foliant/write"
)

// text returns the text of an object.
func text(t *testing.T, o api.Object) string {
	t.Helper()
	s, e := write.Text(o)
	if e != api.OK {
		t.Fatal(e)
	}
	return s
}

// model is a desk by the words of the chapter.
type model struct {
	doc   api.Doc
	has   bool
	saved string
}

// do performs a step.
func (m *model) do(s api.Step) api.Answer {
	if e := script.Check(s); e != api.OK {
		return failed(e)
	}
	if !m.has && !slices.Contains([]int{api.StepOpen, api.StepNew, api.StepReopen, api.StepSpoil}, s.Kind) {
		return failed(api.ErrNone)
	}
	switch s.Kind {
	case api.StepOpen, api.StepReopen, api.StepNew, api.StepSave, api.StepSpoil:
		return m.file(s)
	case api.StepPut, api.StepDrop, api.StepInsert, api.StepRemove, api.StepMove, api.StepName, api.StepFill, api.StepClean:
		d, n, e := m.changed(s)
		if e != api.OK {
			return failed(e)
		}
		m.doc = d
		return ok(n)
	}
	n, lines, e := m.told(s)
	if e != api.OK {
		return failed(e)
	}
	return ok(n, lines...)
}

// file performs a step of files.
func (m *model) file(s api.Step) api.Answer {
	file, e := "", api.OK
	switch s.Kind {
	case api.StepNew:
		d, e := catalog.New(s.A)
		if e != api.OK {
			return failed(e)
		}
		m.doc, m.has = d, true
		return ok(len(d.Items))
	case api.StepSpoil:
		if s.A >= len(m.saved) || s.B > 255 {
			return failed(api.ErrRange)
		}
		m.saved = m.saved[:s.A] + string([]byte{byte(s.B)}) + m.saved[s.A+1:]
		return ok(0)
	case api.StepSave:
		switch s.A {
		case 0:
			file, e = whole.File(m.doc)
		case 1:
			file, e = pack.File(m.doc, 2)
		case 2:
			file, e = linear.File(m.doc)
		case 3:
			if m.saved == "" {
				return failed(api.ErrNone)
			}
			file, e = update.To(m.saved, m.doc)
		default:
			e = api.ErrArg
		}
		if e != api.OK {
			return failed(e)
		}
		m.saved = file
		return ok([]int{len(file), 0, len(file), 0}[s.A])
	}
	file = m.saved
	if s.Kind == api.StepOpen {
		file = s.S
	}
	d, report, e := load.Open(file)
	if e != api.OK {
		return failed(e)
	}
	m.doc, m.has, m.saved = d, true, file
	if report.Repaired {
		return ok(len(d.Items), "repaired")
	}
	return ok(len(d.Items))
}

// changed returns what the document is after a step, and the number of the result.
func (m *model) changed(s api.Step) (d api.Doc, n int, e api.Errno) {
	switch s.Kind {
	case api.StepPut:
		var o api.Object
		if o, e = parse.Whole(s.S); e != api.OK {
			return
		}
		i := api.Item{Num: s.A, Obj: o}
		if was, ok := docs.Get(m.doc, s.A); ok {
			i.Gen = was.Gen
		}
		d, e = docs.Put(m.doc, i)
		return d, s.A, e
	case api.StepDrop:
		d, e = docs.Drop(m.doc, s.A)
	case api.StepInsert:
		more, num, e := docs.Add(m.doc, api.Object{Kind: api.KStream, S: s.S})
		if e != api.OK {
			return d, 0, e
		}
		page, e := parse.Whole(fmt.Sprintf("<</Type/Page/MediaBox[0 0 612 792]/Resources<</Font<</F1<</Type/Font/Subtype/Type1/BaseFont/Helvetica>>>>>>/Contents %d 0 R>>", num))
		if e != api.OK {
			return d, 0, e
		}
		return build.Insert(more, s.A, page)
	case api.StepRemove, api.StepMove:
		if s.Kind == api.StepRemove {
			d, e = build.Remove(m.doc, s.A)
		} else {
			d, e = build.Move(m.doc, s.A, s.B)
		}
		if e == api.OK {
			n, e = pages.Count(d)
		}
	case api.StepName:
		d, e = dest.SetNamed(m.doc, s.S, api.Dest{Page: s.A, Kind: api.DestFit})
	case api.StepFill:
		d, e = look.Fill(m.doc, s.S, s.T)
	case api.StepClean:
		d, e = clean.Doc(m.doc, []string{"AA", "JS", "JavaScript", "Launch", "Metadata", "OpenAction", "PieceInfo"})
		n = len(m.doc.Items) - len(d.Items)
	}
	return
}

// told returns what a step tells of the document.
func (m *model) told(s api.Step) (n int, lines []string, e api.Errno) {
	switch s.Kind {
	case api.StepText:
		var l []api.Line
		l, e = search.Page(m.doc, s.A)
		for _, line := range l {
			all := line.Words[0].S
			for _, w := range line.Words[1:] {
				all += " " + w.S
			}
			lines = append(lines, all)
		}
	case api.StepFind:
		var l []search.Hit
		l, e = search.All(m.doc, s.S)
		for _, h := range l {
			lines = append(lines, fmt.Sprintf("%d %d %d %d", h.Page, h.Line, h.From, h.To))
		}
	case api.StepCount:
		n, e = pages.Count(m.doc)
		return
	case api.StepContents:
		n, e = draw.Steps(m.doc, s.A)
		return
	case api.StepObject:
		i, ok := docs.Get(m.doc, s.A)
		if !ok {
			return 0, nil, api.ErrNone
		}
		if i.Obj.Kind == api.KStream {
			n = len(i.Obj.S)
			i.Obj = api.Object{Kind: api.KDict, Keys: i.Obj.Keys, Kids: i.Obj.Kids}
		}
		line, e := write.Text(i.Obj)
		return n, []string{fmt.Sprintf("%d %s", i.Gen, line)}, e
	case api.StepAudit:
		for _, f := range audit.Doc(m.doc) {
			lines = append(lines, audit.Line(f))
		}
	case api.StepOutline:
		var l []api.Mark
		l, e = outline.Read(m.doc)
		lines = outline.Lines(l)
	case api.StepFields:
		var l []api.Field
		l, e = field.Read(m.doc)
		for _, f := range l {
			name, e := plain.String(f.Name)
			v, valueErr := plain.String(f.Value)
			if e != api.OK || valueErr != api.OK {
				return 0, nil, max(e, valueErr)
			}
			lines = append(lines, fmt.Sprintf("%s %d %s", name, f.Kind, v))
		}
	}
	return len(lines), lines, e
}

// mixer makes choices that look irregular and are always the same.
type mixer uint32

// pick chooses a number from 0 to below, not included.
func (x *mixer) pick(below int) int {
	*x = *x*1664525 + 1013904223
	return int(*x>>8) % below
}

// among chooses a string.
func (x *mixer) among(l ...string) string { return l[x.pick(len(l))] }

// num chooses the number of an item of d, or near those.
func (x *mixer) num(d api.Doc) int {
	if len(d.Items) == 0 || x.pick(6) == 0 {
		return []int{0, 1, 2, 3, 99, api.MaxNum, api.MaxNum + 1}[x.pick(7)]
	}
	return d.Items[x.pick(len(d.Items))].Num + x.pick(5)/4
}

// object returns the text of an object, which may be that of another item of d.
func (x *mixer) object(t *testing.T, d api.Doc) string {
	if i, ok := docs.Get(d, x.num(d)); ok && i.Obj.Kind != api.KStream && x.pick(3) > 0 {
		if s := text(t, i.Obj); len(s) < 20000 {
			return s
		}
	}
	return x.among("null", "7", "[1 0 R 99 0 R]", "<</A 1/AA 2 0 R/Metadata 3 0 R>>", "<</Pages 2 0 R>>", "<</Type/Page>>", "1 0 R", "<<", "", "(a)(b)")
}

// change returns a step that changes d, or should.
func (x *mixer) change(t *testing.T, d api.Doc) api.Step {
	n, _ := pages.Count(d)
	page := func() int { return x.pick(n + 1) }
	switch x.pick(12) {
	case 0:
		return api.Step{Kind: api.StepPut, A: x.num(d), S: x.object(t, d)}
	case 1:
		return api.Step{Kind: api.StepDrop, A: x.num(d)}
	case 2, 3, 4:
		return api.Step{Kind: api.StepInsert, A: page(), S: x.among("BT /F1 10 Tf 5 5 Td (hi) Tj ET", "BT /F1 10 Tf 12 TL 5 50 Td (a b) Tj (cd) ' ET 0 0 m 9 9 l S", "", "BT", "0 0 9 9 re f")}
	case 5:
		return api.Step{Kind: api.StepRemove, A: page()}
	case 6, 7:
		return api.Step{Kind: api.StepMove, A: page(), B: page()}
	case 8:
		return api.Step{Kind: api.StepName, A: page(), S: x.among("a", "b", "", "\xff")}
	case 9, 10:
		l, _ := field.Read(d)
		if len(l) == 0 {
			return api.Step{Kind: api.StepFill, S: "nobody"}
		}
		f := l[x.pick(len(l))]
		s := api.Step{Kind: api.StepFill, S: f.Name, T: x.among("Yes", "Off", "some text", "")}
		if len(f.Choices) > 0 {
			s.T = f.Choices[x.pick(len(f.Choices))]
		}
		if len(s.S) > api.MaxString {
			s.S = ""
		}
		return s
	}
	if x.pick(3) > 0 {
		return api.Step{Kind: api.StepInsert, A: page(), S: "BT /F1 8 Tf 1 1 Td (more) Tj ET"}
	}
	return api.Step{Kind: api.StepClean}
}

// question returns a step that tells of d.
func (x *mixer) question(d api.Doc) api.Step {
	n, _ := pages.Count(d)
	switch s := (api.Step{Kind: []int{api.StepText, api.StepFind, api.StepCount, api.StepObject, api.StepAudit, api.StepOutline, api.StepFields, api.StepContents}[x.pick(8)]}); s.Kind {
	case api.StepText, api.StepContents:
		s.A = x.pick(n + 1)
		return s
	case api.StepFind:
		s.S = x.among("a", "hi", "e", "A B", "")
		return s
	case api.StepObject:
		s.A = x.num(d)
		return s
	default:
		return s
	}
}

// upkeep returns a step of files.
func (x *mixer) upkeep(saved string) api.Step {
	switch x.pick(8) {
	case 0:
		return api.Step{Kind: api.StepNew, A: x.pick(6)}
	case 1, 2:
		return api.Step{Kind: api.StepReopen}
	case 3:
		return api.Step{Kind: api.StepSpoil, A: x.pick(len(saved)*17/16 + 1), B: x.pick(260)}
	}
	return api.Step{Kind: api.StepSave, A: x.pick(9) / 2}
}

// files returns documents of many sorts as the files that a step can open.
func files() []string {
	var l []string
	for _, d := range slices.Concat(sample.Looks()[:150], sample.Scenes()[:60], sample.Books()[:60], sample.Sheets()[:30], sample.Trees()[:30]) {
		if file, e := whole.File(d); e == api.OK && len(file) <= api.MaxString {
			l = append(l, file)
		}
	}
	return l
}

// Promise 56.1, by the words of the chapter.
func TestDoByTheWords(t *testing.T) {
	x, good, bad := mixer(56), map[int]int{}, map[int]int{}
	for _, file := range files() {
		y, m := desk.New(), &model{}
		steps := []api.Step{{Kind: api.StepCount}, {Kind: api.StepOpen, S: file}}
		for range 20 {
			steps = append(steps, api.Step{})
		}
		for i, s := range steps {
			switch {
			case i < 2:
			case x.pick(3) == 0:
				s = x.change(t, m.doc)
			case x.pick(2) == 0:
				s = x.question(m.doc)
			case x.pick(40) == 0:
				s = api.Step{Kind: api.StepOpen, S: m.saved[:min(len(m.saved), x.pick(3000))]}
			default:
				s = x.upkeep(m.saved)
			}
			want := m.do(s)
			got := y.Do(s)
			if !same(got, want) || !docs.Same(y.Doc(), m.doc) || y.Saved() != m.saved {
				t.Fatalf("step %d, %s: %s, want %s", i, brief(s), brief(got), brief(want))
			}
			if got.Err == api.OK {
				good[s.Kind]++
			} else {
				bad[s.Kind]++
			}
		}
	}
	for kind := 1; kind <= 21; kind++ {
		if good[kind] < 20 || bad[kind] < 5 && !slices.Contains([]int{api.StepNew, api.StepClean, api.StepAudit, api.StepReopen}, kind) {
			t.Errorf("%d steps of kind %d, and %d that failed", good[kind], kind, bad[kind])
		}
	}
}

// Promise 56.2, by the words of the chapter: each step of a script has the same result whether they are performed one by one or together.
func TestPlayByTheWords(t *testing.T) {
	x := mixer(2)
	for n, file := range files() {
		if n%4 > 0 {
			continue
		}
		y := desk.New()
		var l []api.Step
		var want []string
		for i := range 20 {
			s := api.Step{Kind: api.StepOpen, S: file}
			switch {
			case i == 0:
			case x.pick(2) == 0:
				s = x.change(t, y.Doc())
			case x.pick(2) == 0:
				s = x.question(y.Doc())
			default:
				s = x.upkeep(y.Saved())
			}
			if _, e := script.Line(s); e != api.OK {
				continue
			}
			l = append(l, s)
			want = append(want, script.Tell(y.Do(s))...)
		}
		text, e := script.Text(l)
		if got, f := desk.Play(text); !slices.Equal(got, want) || f != (api.Fault{}) || e != api.OK {
			t.Fatalf("Play(%s) = %s, %v, %d, want %s", brief(text), brief(got), f, e, brief(want))
		}
	}
}

// Promise 56.3: results are the same whether what was changed is saved and reopened or not.
func TestSessions(t *testing.T) {
	x, changes, saved, questions := mixer(563), 0, map[int]int{}, 0
	for n, file := range files() {
		if n%2 > 0 {
			continue
		}
		open := api.Step{Kind: api.StepOpen, S: file}
		once, often := desk.New(), desk.New()
		once.Do(open)
		often.Do(open)
		for range 12 {
			s := x.change(t, once.Doc())
			a, b := once.Do(s), often.Do(s)
			if !same(a, b) {
				t.Fatalf("%s: %s, and %s when all was saved before", brief(s), brief(a), brief(b))
			}
			if a.Err == api.OK {
				changes++
				form := x.pick(4)
				if often.Do(api.Step{Kind: api.StepSave, A: form}).Err == api.OK {
					saved[form]++
					if a := often.Do(api.Step{Kind: api.StepReopen}); !same(a, ok(len(once.Doc().Items))) {
						t.Fatalf("after %s, and save %d, reopen: %v", brief(s), form, a)
					}
				}
			}
			for range 3 {
				s := x.question(once.Doc())
				if a, b := once.Do(s), often.Do(s); !same(a, b) {
					t.Fatalf("%s: %s, and %s when all was saved before", brief(s), brief(a), brief(b))
				}
				questions++
			}
			if !docs.Same(once.Doc(), often.Doc()) {
				t.Fatalf("after %s the documents are not the same", brief(s))
			}
		}
	}
	for form := range 4 {
		if saved[form] < 100 {
			t.Errorf("%d changes, of which were saved %v, and %d questions", changes, saved, questions)
		}
	}
}

// ten checks a document of the examples that the document of the program begins with.
func ten(t *testing.T, number int, is bool) {
	t.Helper()
	if !is {
		t.Errorf("example %d does not hold", number)
	}
}

// The ten examples of the whole that go through files, pages and forms.
func TestTenExamples(t *testing.T) {
	f := sample.NewFile()
	f.Item(1, 0, "<</A 2 0 R>>")
	f.Item(2, 0, "7")
	f.End(f.Table("/Root 1 0 R/Size 3"))
	file := strings.Replace(f.Text(), "0000000000", "0", 1)
	d, e := load.Strict(file)
	ten(t, 1, e == api.OK && len(d.Items) == 2)
	_, strictErr := load.Strict(file[:80])
	_, _, openErr := load.Open(file[:80])
	ten(t, 2, strictErr == api.ErrStart && openErr == api.ErrTrail)
	longer, e := update.Append(file, []api.Item{{Num: 2, Obj: value.Int(8)}}, nil)
	ten(t, 3, e == api.OK && strings.HasPrefix(longer, file) && len(update.Revisions(longer)) == 2)
	d, _ = catalog.New(2)
	packed, e := pack.File(d, 1)
	got, report, openErr := load.Open(packed)
	ten(t, 4, e == api.OK && openErr == api.OK && !report.Repaired && docs.Same(got, d))

	x := made(t, "new 3", "name (n) 0", "move 0 2")
	l, _ := pages.List(x.Doc())
	to, e := dest.Named(x.Doc(), "n")
	ten(t, 8, e == api.OK && to.Page == 2 && l[0].Num == 4 && l[1].Num == 5 && l[2].Num == 3)
	x = made(t, "new 0", "put 3 (7)", "put 1 (<</Pages 2 0 R/PieceInfo 3 0 R>>)", "clean")
	ten(t, 9, len(x.Doc().Items) == 2)
	d, _ = catalog.New(1)
	d, e = field.Add(d, 0, api.Field{Name: "a", Kind: api.FieldText}, api.Rect{X1: 90 * api.One, Y1: 20 * api.One})
	x = opened(t, d)
	try(t, x, trial{"fill (a) (hi)", ok(0)}, trial{"save 1", ok(0)}, trial{"reopen", ok(5)})
	s, readErr := look.Read(x.Doc(), 4)
	ten(t, 10, e == api.OK && s == "hi" && readErr == api.OK)
}
