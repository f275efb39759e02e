package load_test

import (
	"fmt"
	"slices"
	"strings"
	"testing"

	"foliant/api"
	"foliant/chain"
	"foliant/docs"
	"foliant/load"
	"foliant/repair"
	"foliant/sample"
	"foliant/value"
)

// brief shows the beginning of anything.
func brief(x any) string { return fmt.Sprintf("%.400s", fmt.Sprintf("%q", fmt.Sprint(x))) }

// item returns an item of generation 0.
func item(num int, o api.Object) api.Item { return api.Item{Num: num, Obj: o} }

// sameReport reports whether two reports are equal.
func sameReport(a, b api.Report) bool {
	return a.Repaired == b.Repaired && a.Why == b.Why && a.Sections == b.Sections && slices.Equal(a.Lost, b.Lost)
}

// sameSection reports whether two sections are equal.
func sameSection(a, b api.Section) bool {
	return a.At == b.At && slices.Equal(a.Slots, b.Slots) && value.Same(a.Trailer, b.Trailer) && a.Prev == b.Prev && a.Hybrid == b.Hybrid && a.Own == b.Own
}

// reads checks that a file is read strictly as a document, by way of so many sections.
func reads(t *testing.T, s string, want api.Doc, sections int) {
	t.Helper()
	if d, e := load.Strict(s); !docs.Same(d, want) || e != api.OK {
		t.Errorf("Strict(%s) = %s, %d, want %s", brief(s), brief(d), e, brief(want))
	}
	d, r, e := load.Open(s)
	if !docs.Same(d, want) || !sameReport(r, api.Report{Sections: sections}) || e != api.OK {
		t.Errorf("Open(%s) = %s, %v, %d, want %s", brief(s), brief(d), r, e, brief(want))
	}
	if e := docs.Check(d); e != api.OK {
		t.Errorf("Open(%s) has the error %d", brief(s), e)
	}
	if l, e := load.Sections(s); len(l) != sections || e != api.OK {
		t.Errorf("Sections(%s) = %s, %d, want %d of them", brief(s), brief(l), e, sections)
	}
}

// fails checks that a file can't be read strictly, and why, and that it is mended as package repair does.
func fails(t *testing.T, s string, at int, want api.Errno) {
	t.Helper()
	if d, e := load.Strict(s); !docs.Same(d, api.Doc{}) || e != want {
		t.Errorf("Strict(%s) = %s, %d, want %d", brief(s), brief(d), e, want)
	}
	mended, lost, err := repair.File(s)
	report := api.Report{Repaired: true, Why: api.Fault{At: at, Err: want}, Lost: lost}
	if err != api.OK {
		report = api.Report{}
	}
	if d, r, e := load.Open(s); !docs.Same(d, mended) || !sameReport(r, report) || e != err {
		t.Errorf("Open(%s) = %s, %v, %d, want %s, %v, %d", brief(s), brief(d), r, e, brief(mended), report, err)
	}
}

// two returns the file of two objects with which the document begins its examples, and the offset of its table.
func two() (string, int) {
	f := sample.NewFile()
	f.Enter(api.Slot{B: api.MaxGen})
	f.Item(1, 0, "<</A 2 0 R>>")
	f.Item(2, 0, "7")
	at := f.Table("/Root 1 0 R/Size 3")
	f.End(at)
	return f.Text(), at
}

// twoDoc is the document of that file.
func twoDoc() api.Doc {
	return sample.Doc(1, item(1, sample.Dict("A", value.Ref(2, 0))), item(2, value.Int(7)))
}

// Promises 25.1 and 25.2, by the examples of the document and of the chapter.
func TestExamples(t *testing.T) {
	s, _ := two()
	reads(t, s, twoDoc(), 1)
	fails(t, s[:80], 0, api.ErrStart)
	if _, _, e := load.Open(s[:80]); e != api.ErrTrail {
		t.Errorf("Open of the beginning has the error %d", e)
	}
	fails(t, "%PDF-1.4", 0, api.ErrStart)
	if _, _, e := load.Open("%PDF-1.4"); e != api.ErrLost {
		t.Errorf("Open of a header has the error %d", e)
	}
}

// Promise 25.1: files with sections of both kinds, alone, in a chain and beside each other.
func TestSectionKinds(t *testing.T) {
	f := sample.NewFile()
	f.Item(1, 0, "<</A 2 0 R>>")
	f.Item(2, 3, "(old)")
	f.Item(3, 0, "null")
	first := f.Table("/Root 1 0 R/Info 9 0 R")
	f.End(first)
	old := sample.Doc(1, item(1, sample.Dict("A", value.Ref(2, 0))), api.Item{Num: 2, Gen: 3, Obj: value.String("old")}, item(3, value.Null()))
	old.Trailer = sample.Dict("Info Root", value.Ref(9, 0), value.Ref(1, 0))
	reads(t, f.Text(), old, 1)

	length := f.Pack(5, "6 0 R", []int{8, 2}, "[8 0 R]", "(new)")
	f.Item(6, 0, fmt.Sprint(length))
	f.Stream(7, "/Type/ObjStm/N 0/First 0", "", "")
	f.Enter(api.Slot{Num: 3, B: 1})
	second := f.Cross(10, fmt.Sprintf("/Size 9/Root 8 0 R/ID[(a)]/Prev %d", first))
	f.End(second)
	fails(t, f.Text(), second, api.ErrTrail)

	f.Item(8, 1, "<</K/V>>")
	f.Stream(3, "/Type/Other", "6 0 R", strings.Repeat("s", length))
	hybrid := f.Cross(11, "/Size 0/Root 2 0 R")
	f.Item(11, 0, "true")
	f.Enter(api.Slot{Num: 3, B: 2})
	third := f.Table(fmt.Sprintf("/Root 8 1 R/Prev %d/XRefStm %d", second, hybrid))
	f.End(third)
	stream := api.Object{Kind: api.KStream, Keys: []string{"Type"}, Kids: []api.Object{value.Name("Other")}, S: strings.Repeat("s", length)}
	want := sample.Doc(1, old.Items[0], item(2, value.String("new")), item(6, value.Int(int64(length))), api.Item{Num: 8, Gen: 1, Obj: sample.Dict("K", value.Name("V"))}, item(11, value.Bool(true)))
	want.Trailer = sample.Dict("Root", value.Ref(8, 1))
	reads(t, f.Text(), want, 4)

	f.Enter(api.Slot{Num: 1})
	f.End(f.Table(fmt.Sprintf("/Root 8 1 R/Prev %d/XRefStm %d", second, hybrid)))
	want.Items = slices.Insert(want.Items[1:], 1, item(3, stream))
	want.Items = slices.DeleteFunc(want.Items, func(i api.Item) bool { return i.Num == 11 })
	reads(t, f.Text(), want, 4)
}

// Promise 25.1: the sections and the entries are those of package chain, though the objects can't be read.
func TestSections(t *testing.T) {
	f := sample.NewFile()
	f.Item(1, 0, "<<>>")
	f.Item(2, 0, "]")
	first := f.Table("")
	f.Enter(api.Slot{Num: 2, Kind: api.SlotPacked, A: 1, B: 7})
	f.Enter(api.Slot{Num: 4, Kind: api.SlotPlain, A: 99999})
	second := f.Cross(3, fmt.Sprintf("/Size 1/Prev %d", first))
	f.End(second)
	s := f.Text()
	sections, e := load.Sections(s)
	want, _ := chain.Read(s, second)
	if !slices.EqualFunc(sections, want, sameSection) || len(sections) != 2 || e != api.OK {
		t.Errorf("Sections = %s, %d, want %s", brief(sections), e, brief(want))
	}
	slots, e := load.Slots(s)
	if !slices.Equal(slots, chain.Merge(want)) || len(slots) != 4 || slots[1].Kind != api.SlotPacked || e != api.OK {
		t.Errorf("Slots = %v, %d", slots, e)
	}
	for s, want := range map[string]api.Errno{
		"": api.ErrHead, "x": api.ErrHead, "%PDF-1.": api.ErrHead, "%PDF-2.0 startxref 0": api.ErrHead, "%PDF-1.4": api.ErrStart, "%PDF-1.4 startxref": api.ErrStart, "%PDF-1.4 startxref -1": api.ErrStart, "%PDF-1.4 startxref 21": api.ErrStart, "startxref 0 startxref %PDF-1.4": api.ErrStart,
		"%PDF-1.4 startxref 19": api.ErrEnd, "%PDF-1.4 startxref 20": api.ErrRange, "%PDF-1.4 startxref 9": api.ErrForm, "%PDF-1.4 startxref 0": api.ErrEnd, "%PDF-1.4\nxref 0 1 trailer<<>>startxref 9": api.ErrTable, "%PDF-1.4\n1 0 obj 5 endobj startxref 9": api.ErrStream, "%PDF-1.4\nxref trailer<</Prev 9>>startxref 9": api.ErrLoop, "%PDF-1.4\nxref trailer<</Prev 99>>startxref 9": api.ErrPlace,
	} {
		if l, e := load.Sections(s); len(l) > 0 || e != want {
			t.Errorf("Sections(%q) = %s, %d, want %d", s, brief(l), e, want)
		}
		if l, e := load.Slots(s); len(l) > 0 || e != want {
			t.Errorf("Slots(%q) = %v, %d, want %d", s, l, e, want)
		}
		if d, e := load.Strict(s); !docs.Same(d, api.Doc{}) || e != want {
			t.Errorf("Strict(%q) = %s, %d, want %d", s, brief(d), e, want)
		}
	}
}

// Promises 25.1 and 25.2: the errors, each with its position.
func TestErrors(t *testing.T) {
	const at = 9
	file := func(text, trailer string, slots ...api.Slot) (string, int) {
		f := sample.NewFile()
		f.Put(text)
		f.Item(1, 0, "<<>>")
		for _, slot := range slots {
			f.Enter(slot)
		}
		start := f.Table(trailer)
		f.End(start)
		return f.Text(), start
	}
	plain := api.Slot{Num: 2, Kind: api.SlotPlain, A: at}
	root := "/Root 1 0 R"
	s, start := file("2 0 obj 7 endobj ", root, plain)
	reads(t, s, sample.Doc(1, item(1, sample.Dict("")), item(2, value.Int(7))), 1)
	fails(t, "%PDF-2.4"+s[8:], 0, api.ErrHead)
	fails(t, s[:len(s)-len("startxref\n999\n%%EOF\n")], 0, api.ErrStart)
	fails(t, s+"startxref 99999", 0, api.ErrStart)
	fails(t, s+"startxref", 0, api.ErrStart)
	fails(t, s+"startxref 9", 9, api.ErrStream)
	fails(t, s+fmt.Sprintf("startxref %d", start-1), start-1, api.ErrForm)
	fails(t, strings.Replace(s, "trailer", "trailes", 1), start, api.ErrTable)
	for text, want := range map[string]api.Errno{
		"2 1 obj 7 endobj": api.ErrPlace, "3 0 obj 7 endobj": api.ErrPlace, "2 0 obj ] endobj": api.ErrForm, "2 0 obj 1 0 R endobj": api.ErrKind, "0 0 obj 7 endobj": api.ErrRange, "2 0 obj<</Length 2 0 R>>stream\n\nendstream endobj": api.ErrLoop,
		"2 0 obj<</Length 5 0 R>>stream\n\nendstream endobj": api.ErrNone, "2 0 obj<</Length 1 0 R>>stream\n\nendstream endobj": api.ErrKind, "2 0 obj<<>>stream\n\nendstream endobj": api.ErrForm, "2 0 obj/" + strings.Repeat("n", api.MaxName+1) + " endobj": api.ErrLong,
	} {
		s, _ := file(text+"\n", root, plain)
		fails(t, s, at, want)
		s, _ = file(text+"\n", root, plain, api.Slot{Num: 3, Kind: api.SlotPlain, A: 5})
		fails(t, s, at, want)
		s, _ = file(text+"\n", root, plain, api.Slot{Num: 0, Kind: api.SlotPlain, A: 7})
		fails(t, s, 7, api.ErrForm)
	}
	for _, trailer := range []string{"", "/Root 1 1 R", "/Root 2 0 R", "/Root 3 0 R", "/Root<<>>", "/Root 1", "/Size 3/ID[]"} {
		s, start := file("2 0 obj 7 endobj ", trailer, plain)
		fails(t, s, start, api.ErrTrail)
	}
	fails(t, "%PDF-1.4\nxref trailer<</Root 1 0 R>>startxref 9", 9, api.ErrTrail)
	// A packed entry has no offset of its own, and the least number that fails counts.
	for b, want := range []api.Errno{api.OK, api.ErrPlace, api.ErrRange} {
		f := sample.NewFile()
		f.Item(1, 0, "<<>>")
		f.Pack(2, "", []int{5, 4}, "(five)", "(four)")
		f.Enter(api.Slot{Num: 5, Kind: api.SlotPacked, A: 2, B: b})
		f.Enter(api.Slot{Num: 4})
		start := f.Cross(7, "/Size 8/Root 1 0 R")
		f.End(start)
		if want == api.OK {
			reads(t, f.Text(), sample.Doc(1, item(1, sample.Dict("")), item(5, value.String("five"))), 1)
		} else {
			fails(t, f.Text(), 0, want)
		}
		f.Enter(api.Slot{Num: 6, Kind: api.SlotPlain, A: 3})
		f.End(f.Cross(7, fmt.Sprintf("/Size 8/Root 1 0 R/Prev %d", start)))
		if want == api.OK {
			fails(t, f.Text(), 3, api.ErrForm)
		} else {
			fails(t, f.Text(), 0, want)
		}
	}
}
