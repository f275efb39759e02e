package load_test

import (
	"fmt"
	"slices"
	"strings"
	"testing"

	"foliant/api"
	"foliant/chain"
	"foliant/docs"
	"foliant/head"
	"foliant/load"
	"foliant/pack"
	"foliant/repair"
	"foliant/resolve"
	"foliant/sample"
	"foliant/value"
	"foliant/whole"
)

// sections reads the sections of a file by the words of the chapter.
func sections(s string) ([]api.Section, int, api.Fault) {
	if len(s) > api.MaxFile {
		return nil, 0, api.Fault{Err: api.ErrLong}
	}
	if _, _, e := head.Version(s); e != api.OK {
		return nil, 0, api.Fault{Err: e}
	}
	start, e := head.Start(s)
	if e != api.OK {
		return nil, 0, api.Fault{Err: e}
	}
	l, e := chain.Read(s, start)
	if e != api.OK {
		return nil, 0, api.Fault{At: start, Err: e}
	}
	return l, start, api.Fault{}
}

// strict reads a file by the words of the chapter.
func strict(s string) (api.Doc, api.Fault) {
	l, start, f := sections(s)
	if f.Err != api.OK {
		return api.Doc{}, f
	}
	slots := chain.Merge(l)
	items, failed := resolve.All(s, slots)
	for _, num := range failed {
		_, e := resolve.Item(s, slots, num)
		if slot, _ := chain.Find(slots, num); slot.Kind == api.SlotPlain {
			return api.Doc{}, api.Fault{At: slot.A, Err: e}
		}
		return api.Doc{}, api.Fault{Err: e}
	}
	d := api.Doc{Items: items, Trailer: chain.Trailer(l)}
	if docs.Check(d) != api.OK {
		return api.Doc{}, api.Fault{At: start, Err: api.ErrTrail}
	}
	return d, api.Fault{}
}

// checkWords holds what the package answers for a file against the words of the chapter, and returns why the file can't be read strictly.
func checkWords(t *testing.T, s string) api.Errno {
	t.Helper()
	l, _, f := sections(s)
	if got, e := load.Sections(s); !slices.EqualFunc(got, l, sameSection) || e != f.Err {
		t.Errorf("Sections(%q) = %s, %d, want %s, %d", s, brief(got), e, brief(l), f.Err)
	}
	if got, e := load.Slots(s); !slices.Equal(got, chain.Merge(l)) || e != f.Err {
		t.Errorf("Slots(%q) = %v, %d, want %v, %d", s, got, e, chain.Merge(l), f.Err)
	}
	d, f := strict(s)
	if got, e := load.Strict(s); !docs.Same(got, d) || e != f.Err {
		t.Errorf("Strict(%q) = %s, %d, want %s, %d", s, brief(got), e, brief(d), f.Err)
	}
	report, err := api.Report{Sections: len(l)}, api.OK
	if f.Err != api.OK {
		report = api.Report{Repaired: true, Why: f}
		d, report.Lost, err = repair.File(s)
		if err != api.OK {
			report = api.Report{}
		}
	}
	got, r, e := load.Open(s)
	if !docs.Same(got, d) || !sameReport(r, report) || e != err {
		t.Errorf("Open(%q) = %s, %v, %d, want %s, %v, %d", s, brief(got), r, e, brief(d), report, err)
	}
	if e == api.OK && docs.Check(got) != api.OK {
		t.Errorf("Open(%q) = %s, which is not valid", s, brief(got))
	}
	return f.Err
}

// files returns small files of all kinds, which are read strictly.
func files() []string {
	tables, _ := two()
	f := sample.NewFile()
	f.Item(1, 0, "<</Type/Catalog>>")
	length := f.Pack(2, "3 0 R", []int{4, 5}, "<</A 6 0 R>>", "(x)")
	f.Item(3, 0, fmt.Sprint(length))
	start := f.Cross(7, "/Size 8/Root 1 0 R")
	f.End(start)
	packed := f.Text()
	f.Stream(6, "", "", "1 0 obj<<>>endobj")
	f.Item(4, 1, "null")
	f.Enter(api.Slot{Num: 5, B: 1})
	f.End(f.Cross(8, fmt.Sprintf("/Size 9/Root 1 0 R/Prev %d", start)))
	twice := f.Text()
	g := sample.NewFile()
	g.Item(1, 0, "<</Type/Catalog>>")
	g.Stream(2, "", "3 0 R", "ab")
	g.Item(3, 0, "2")
	old := g.Table("/Root 1 0 R/Info 2 0 R")
	g.End(old)
	g.Item(2, 0, "[1 0 R]")
	beside := g.Cross(6, "/Size 9")
	g.Item(5, 0, "(new)")
	g.End(g.Table(fmt.Sprintf("/Root 1 0 R/Prev %d/XRefStm %d", old, beside)))
	return []string{tables, packed, twice, g.Text()}
}

// Promises 25.1 to 25.3, held against the words of the chapter for damaged files.
func TestDamagedFiles(t *testing.T) {
	errors := map[api.Errno]int{}
	for _, s := range files() {
		if e := checkWords(t, s); e != api.OK {
			t.Errorf("%q has the error %d", s, e)
		}
		for at := range len(s) {
			for _, c := range " 01%(R" {
				errors[checkWords(t, s[:at]+string(c)+s[at+1:])]++
			}
			errors[checkWords(t, s[:at])]++
			errors[checkWords(t, s[at:])]++
			errors[checkWords(t, s[:at]+s[at+1:])]++
		}
	}
	for _, e := range []api.Errno{api.OK, api.ErrHead, api.ErrStart, api.ErrTable, api.ErrStream, api.ErrPlace, api.ErrTrail, api.ErrForm, api.ErrKind} {
		if errors[e] < 5 {
			t.Errorf("the error %d comes %d times only", e, errors[e])
		}
	}
}

// Promise 25.3: what may follow a file without a change of its document.
func TestTails(t *testing.T) {
	for _, s := range files() {
		d, _ := load.Strict(s)
		l, _ := load.Sections(s)
		for _, tail := range []string{" ", "\x00\t\n\f\r", "%", "%startxre\n% 1 0 obj 5 endobj\n", "\n%%EOF\n", "% trailer<<>>", strings.Repeat("% xref\r\n", 1000)} {
			reads(t, s+tail, d, len(l))
			reads(t, strings.TrimRight(s, "\n")+tail, d, len(l))
			reads(t, s[:strings.LastIndex(s, "\n%%EOF")]+tail, d, len(l))
		}
	}
}

// Promises 25.1 and 25.2: a file as long as files may be, and longer ones.
func TestLongFiles(t *testing.T) {
	for _, s := range files() {
		d, _ := load.Strict(s)
		l, _ := load.Sections(s)
		full := s + strings.Repeat(" ", api.MaxFile-len(s))
		reads(t, full, d, len(l))
		for _, long := range []string{full + " ", full + full, "x" + full, strings.Repeat("x", api.MaxFile+1)} {
			tooLong(t, long)
		}
		// The same error from inside an object does not make the file too long.
		name := "/" + strings.Repeat("n", api.MaxName+1)
		at := strings.Index(s, "/Type/Catalog")
		if at < 0 {
			continue
		}
		bad := s[:at] + name + s[at:]
		if _, r, e := load.Open(bad); e == api.ErrLong || e == api.OK && !r.Repaired {
			t.Errorf("Open(%s) = %v, %d", brief(bad), r, e)
		}
		checkWords(t, bad)
	}
}

// tooLong checks that a file is too long for all functions.
func tooLong(t *testing.T, s string) {
	t.Helper()
	if d, r, e := load.Open(s); !docs.Same(d, api.Doc{}) || !sameReport(r, api.Report{}) || e != api.ErrLong {
		t.Errorf("Open of %d bytes = %s, %v, %d", len(s), brief(d), r, e)
	}
	if d, e := load.Strict(s); !docs.Same(d, api.Doc{}) || e != api.ErrLong {
		t.Errorf("Strict of %d bytes = %s, %d", len(s), brief(d), e)
	}
	if l, e := load.Sections(s); len(l) > 0 || e != api.ErrLong {
		t.Errorf("Sections of %d bytes = %s, %d", len(s), brief(l), e)
	}
	if l, e := load.Slots(s); len(l) > 0 || e != api.ErrLong {
		t.Errorf("Slots of %d bytes = %v, %d", len(s), l, e)
	}
}

// Promises 25.2 and 25.3, and P6: a file whose cross references alone are damaged has the same document, and one that is not damaged is not mended.
func TestMendedFiles(t *testing.T) {
	for i, d := range sample.Docs() {
		s, e := whole.File(d)
		if e == api.ErrLong {
			continue
		}
		reads(t, s, d, 1)
		start, _ := head.Start(s)
		for _, bad := range []string{s[:len(s)-20], s + "startxref 0", s[:start] + "y" + s[start+1:], "%PDF-9.9" + s[8:]} {
			f := reason(t, bad)
			got, r, e := load.Open(bad)
			if !docs.Same(got, d) || !sameReport(r, api.Report{Repaired: true, Why: f}) || e != api.OK {
				t.Errorf("Open of file %d with damage = %s, %v, %d, want %s", i, brief(got), r, e, brief(d))
			}
		}
		if s, e := pack.File(d, 1); e == api.OK {
			reads(t, s, d, 1)
		}
	}
}

// reason returns why a file can't be read strictly.
func reason(t *testing.T, s string) api.Fault {
	t.Helper()
	_, f := strict(s)
	if f.Err == api.OK {
		t.Errorf("%s is read strictly", brief(s))
	}
	return f
}

// Promise 25.2: the numbers that are lost.
func TestLost(t *testing.T) {
	s := "%PDF-1.4\n1 0 obj<</Type/Catalog>>endobj\n5 0 obj ] endobj\n3 0 obj"
	d, r, e := load.Open(s)
	want := api.Report{Repaired: true, Why: api.Fault{Err: api.ErrStart}, Lost: []int{3, 5}}
	if !docs.Same(d, sample.Doc(1, item(1, sample.Dict("Type", value.Name("Catalog"))))) || !sameReport(r, want) || e != api.OK {
		t.Errorf("Open = %s, %v, %d", brief(d), r, e)
	}
}

// Promise 25.1: an object to which many entries lead is not read for each of them anew.
func TestManyEntriesForOne(t *testing.T) {
	big := "[" + strings.Repeat("["+strings.Repeat("1 ", api.MaxKids)+"]", 48) + "]"
	f := sample.NewFile()
	at := f.Put("1 0 obj" + big + "endobj\n")
	start := f.Put("xref\n0 8192\n" + strings.Repeat(fmt.Sprintf("%010d 00000 n \n", at), 8192) + "trailer<</Root 1 0 R>>\n")
	f.End(start)
	if _, f := strict(f.Text()); f != (api.Fault{At: at, Err: api.ErrPlace}) {
		t.Errorf("the fault is %v", f)
	}
	if _, e := load.Strict(f.Text()); e != api.ErrPlace {
		t.Errorf("Strict has the error %d", e)
	}
}
