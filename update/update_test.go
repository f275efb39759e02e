package update_test

import (
	"fmt"
	"slices"
	"strings"
	"testing"

	"foliant/api"
	"foliant/body"
	"foliant/docs"
	"foliant/head"
	"foliant/load"
	"foliant/pack"
	"foliant/sample"
	"foliant/update"
	"foliant/value"
	"foliant/whole"
)

// brief shows the beginning of anything.
func brief(x any) string { return fmt.Sprintf("%.400s", fmt.Sprintf("%q", fmt.Sprint(x))) }

// item returns an item of generation 0.
func item(num int, o api.Object) api.Item { return api.Item{Num: num, Obj: o} }

// streamOf returns a stream without entries.
func streamOf(data string) api.Object { return api.Object{Kind: api.KStream, S: data} }

// crowded returns a stream that has no room for its length among its entries.
func crowded() api.Object {
	o := sample.Broad(api.MaxKids)
	o.Kind = api.KStream
	return o
}

// must returns v, which comes without an error.
func must[T any](v T, e api.Errno) T {
	if e != api.OK {
		panic(fmt.Sprint("error ", e))
	}
	return v
}

// two returns the file of two objects with which the document begins its examples, and the offset of its table.
func two() (string, int) {
	f := sample.NewFile()
	f.Enter(api.Slot{B: api.MaxGen})
	f.Item(1, 0, "<</A 2 0 R>>")
	f.Item(2, 0, "7")
	at := f.Table("/Root 1 0 R/Size 3")
	f.End(at)
	return f.Text(), at
}

// updates updates a file to a document, holds the result against the words of the chapter, and returns what was added.
func updates(t *testing.T, s string, d api.Doc) string {
	t.Helper()
	r, ok := read(s)
	if !ok {
		t.Fatalf("%s can't be read", brief(s))
	}
	want, err := to(r, d)
	got, e := update.To(s, d)
	if got != want || e != err || e != api.OK {
		t.Fatalf("To(%s, %s) = %s, %d, want %s, %d", brief(s), brief(d), brief(got), e, brief(want), err)
	}
	checkUpdated(t, r, d, got, update.Revisions(s))
	return got[len(s):]
}

// refuses checks that a file can't be updated to a document.
func refuses(t *testing.T, want api.Errno, s string, d api.Doc) {
	t.Helper()
	if got, e := update.To(s, d); got != "" || e != want {
		t.Errorf("To(%s, %s) = %s, %d, want %d", brief(s), brief(d), brief(got), e, want)
	}
}

// Promises 28.1 and 28.2, by the example of the document.
func TestExample(t *testing.T) {
	s, at := two()
	got, e := update.Append(s, []api.Item{item(2, value.Int(8))}, nil)
	want := s + "2 0 obj\n8\nendobj\n"
	want += fmt.Sprintf("xref\n2 1\n%010d 00000 n \ntrailer\n<</Prev %d/Root 1 0 R/Size 3>>\nstartxref\n%d\n%%%%EOF\n", len(s), at, len(want))
	if got != want || e != api.OK {
		t.Errorf("Append = %q, %d, want %q", got, e, want)
	}
	if l := update.Revisions(got); !slices.Equal(l, []int{len(s), len(got)}) {
		t.Errorf("Revisions = %v", l)
	}
	for n, want := range []string{"", s, got, ""} {
		if back, e := update.Back(got, n); back != want || (e == api.OK) != (want != "") || want == "" && e != api.ErrNone {
			t.Errorf("Back(%d) = %s, %d", n, brief(back), e)
		}
	}
}

// Promise 28.1, by the example of the chapter: a file that has the document already is returned as it is, even where it could not be updated.
func TestSameDocument(t *testing.T) {
	table, _ := two()
	f := sample.NewFile()
	f.Item(1, 0, "<<>>")
	at := f.Table("/Root 1 0 R")
	for range api.MaxChain - 1 {
		at = f.Table(fmt.Sprintf("/Root 1 0 R/Prev %d", at))
	}
	f.End(at)
	long := f.Text() + strings.Repeat(" ", api.MaxFile-len(f.Text()))
	for _, s := range []string{table, strings.TrimSpace(table), f.Text(), long} {
		if got, e := update.To(s, must(load.Strict(s))); got != s || e != api.OK {
			t.Errorf("To(%s) = %s, %d", brief(s), brief(got), e)
		}
		if got, e := update.Append(s, nil, nil); got != s || e != api.OK {
			t.Errorf("Append(%s) = %s, %d", brief(s), brief(got), e)
		}
	}
	got, e := update.Append(table, []api.Item{item(5, value.Null()), item(2, value.Int(8)), item(2, value.Int(7))}, []int{2})
	if want := must(update.Append(table, []api.Item{item(5, value.Null())}, nil)); got != want || e != api.OK {
		t.Errorf("Append = %s, %d, want %s", brief(got), e, brief(want))
	}
}

// Promise 28.1: the errors, in their order.
func TestErrors(t *testing.T) {
	s, _ := two()
	d := must(load.Strict(s))
	bad := item(3, crowded())
	other := must(docs.Put(d, item(2, value.Int(8))))
	for _, old := range []string{"", "%PDF-1.4", s[:len(s)-20], s + "startxref 9", strings.Repeat(" ", api.MaxFile+1), "1 0 obj<</Type/Catalog>>endobj", strings.Replace(s, "2 0 obj", "3 0 obj", 1)} {
		_, e := load.Strict(old)
		for _, d := range []api.Doc{d, other, {}} {
			refuses(t, e, old, d)
		}
		if got, err := update.Append(old, []api.Item{bad, {}}, []int{9}); got != "" || err != e || e == api.OK {
			t.Errorf("Append(%s) = %s, %d, want %d", brief(old), brief(got), err, e)
		}
	}
	for _, d := range []api.Doc{{}, sample.Doc(2, d.Items...), sample.Doc(1, d.Items[0], d.Items[0]), sample.Doc(1, d.Items[0], bad, item(4, value.Ref(1, 0)))} {
		refuses(t, docs.Check(d), s, d)
	}
	refuses(t, api.ErrMany, s, must(docs.Put(d, bad)))
	refuses(t, api.ErrMany, s, must(docs.Apply(d, []api.Item{item(2, streamOf(strings.Repeat("s", api.MaxData))), bad}, nil)))
	refuses(t, api.ErrLong, s, must(docs.Put(d, item(2, streamOf(strings.Repeat("s", api.MaxData))))))
	for _, c := range []struct {
		l    []api.Item
		drop []int
	}{{[]api.Item{bad}, nil}, {nil, []int{3}}, {[]api.Item{bad, {}}, []int{2, 2}}, {[]api.Item{bad, {}}, nil}, {nil, []int{1}}, {[]api.Item{item(1, value.Null())}, nil}, {[]api.Item{item(2, value.Ref(1, 0))}, []int{1}}} {
		target, e := docs.Apply(d, c.l, c.drop)
		want := ""
		if e == api.OK {
			want, e = update.To(s, target)
		}
		if got, err := update.Append(s, c.l, c.drop); got != want || err != e || e == api.OK {
			t.Errorf("Append(%s, %v) = %s, %d, want %s, %d", brief(c.l), c.drop, brief(got), err, brief(want), e)
		}
	}
}

// Promise 28.1: how many sections a file may have, and in which place the error comes.
func TestManySections(t *testing.T) {
	packed := func(d api.Doc) (string, api.Errno) { return pack.File(d, 1) }
	for _, file := range []func(d api.Doc) (string, api.Errno){whole.File, packed} {
		d := sample.Doc(1, item(1, sample.Dict("")), item(3, value.Int(0)))
		s := must(file(d))
		ends := []int{len(s)}
		for n := 1; n < api.MaxChain; n++ {
			d.Items[1].Obj.N = int64(n)
			s = must(update.To(s, d))
			ends = append(ends, len(s))
		}
		if l := update.Revisions(s); !slices.Equal(l, ends) {
			t.Errorf("Revisions = %v, want %v", l, ends)
		}
		for _, n := range []int{1, 2, 33, api.MaxChain} {
			d.Items[1].Obj.N = int64(n - 1)
			if back, e := update.Back(s, n); back != s[:ends[n-1]] || e != api.OK || !docs.Same(must(load.Strict(back)), d) {
				t.Errorf("Back(%d) = %s, %d", n, brief(back), e)
			}
		}
		if l, e := load.Sections(s); len(l) != api.MaxChain || e != api.OK {
			t.Errorf("there are %d sections", len(l))
		}
		d.Items[1].Obj.N = -1
		refuses(t, api.ErrMany, s, d)
		d.Items[1].Obj = crowded()
		refuses(t, api.ErrMany, s, d)
		d.Items = append(d.Items, item(api.MaxNum, streamOf(strings.Repeat("s", api.MaxData))))
		refuses(t, api.ErrMany, s, d)
		d.Items[1].Obj = value.Ref(1, 0)
		refuses(t, api.ErrKind, s, d)
	}
}

// Promise 28.1: there must be a number for a cross-reference stream.
func TestRoom(t *testing.T) {
	d := sample.Doc(1, item(1, sample.Dict("")))
	table, stream := must(whole.File(d)), must(pack.File(d, 0))
	for num := api.MaxNum - 2; num <= api.MaxNum; num++ {
		next := must(docs.Put(d, item(num, value.Null())))
		updates(t, table, next)
		if num == api.MaxNum {
			refuses(t, api.ErrFull, stream, next)
			refuses(t, api.ErrFull, stream, must(docs.Put(next, item(2, crowded()))))
			refuses(t, api.ErrFull, stream, must(docs.Put(next, item(2, streamOf(strings.Repeat("s", api.MaxData))))))
			continue
		}
		s := stream + updates(t, stream, next)
		if l := must(load.Sections(s)); l[0].Own != num+1 || !sized(l[0], num+2) {
			t.Errorf("the section is %s", brief(l[0]))
		}
		if num == api.MaxNum-1 {
			refuses(t, api.ErrFull, s, d)
		} else {
			updates(t, s, d)
		}
	}
	for size, want := range map[int]api.Errno{0: api.OK, 3: api.OK, 30: api.OK, api.MaxNum: api.OK, api.MaxNum + 1: api.ErrFull} {
		f := sample.NewFile()
		f.Item(1, 0, "<<>>")
		f.End(f.Cross(2, fmt.Sprintf("/Root 1 0 R/Size %d", size)))
		next := must(docs.Put(d, item(4, value.Null())))
		if want != api.OK {
			refuses(t, want, f.Text(), next)
			continue
		}
		s := f.Text() + updates(t, f.Text(), next)
		if l := must(load.Sections(s)); l[0].Own != max(size, 5) || !sized(l[0], max(size, 5)+1) {
			t.Errorf("the section is %s", brief(l[0]))
		}
	}
}

// sized reports whether the trailer of a section tells a size.
func sized(x api.Section, size int) bool {
	o, _ := value.Get(x.Trailer, "Size")
	return value.Same(o, value.Int(int64(size)))
}

// Promise 28.1: the size that a table's trailer tells counts if it is an integer.
func TestSizes(t *testing.T) {
	for told, want := range map[string]int{"": 10, "/Size 3": 10, "/Size 11": 11, "/Size 9999": 9999, "/Size 2147483647": api.MaxInt, "/Size -2147483647": 10, "/Size 99.0": 10, "/Size(99)": 10, "/Size 9 0 R": 10, "/Size[99]": 10} {
		f := sample.NewFile()
		f.Item(1, 0, "<<>>")
		f.Enter(api.Slot{Num: 9})
		old := f.Table("/Root 1 0 R/Size 7777")
		at := f.Table(fmt.Sprintf("/Root 1 0 R/Extra 5/Prev %d%s", old, told))
		f.End(at)
		d := sample.Doc(1, item(1, sample.Dict("A", value.Int(1))))
		s := f.Text() + updates(t, f.Text(), d)
		x := must(load.Sections(s))[0]
		if !slices.Equal(x.Trailer.Keys, []string{"Prev", "Root", "Size"}) || !sized(x, want) || x.Prev != at || x.Hybrid != -1 {
			t.Errorf("after %s the section is %s", told, brief(x))
		}
	}
}

// Promise 28.1: what stands between the file and its update.
func TestEndOfLine(t *testing.T) {
	s, _ := two()
	d := sample.Doc(1, item(1, sample.Dict("")))
	s = strings.TrimSpace(s)
	for end, between := range map[string]string{"": "\n", "\n": "", "\r": "", "\r\n": "", "\n\n": "", "\r\r": "", "\n ": "\n", " x": "\n", "\n%": "\n", "\x00": "\n", "\f": "\n"} {
		if got := updates(t, s+end, d); !strings.HasPrefix(got, between+"1 0 obj\n") {
			t.Errorf("after %q the update is %s", end, brief(got))
		}
	}
}

// Promise 28.1: the numbers that are freed, and a section that has no entries at all.
func TestFreed(t *testing.T) {
	f := sample.NewFile()
	f.Item(1, 0, "<<>>")
	f.Item(2, 7, "2")
	f.Item(3, api.MaxGen, "3")
	f.Item(4, api.MaxGen-1, "4")
	f.Enter(api.Slot{Num: 5, B: 3})
	f.End(f.Table("/Root 1 0 R"))
	root := item(1, sample.Dict(""))
	s := f.Text() + updates(t, f.Text(), sample.Doc(1, root))
	want := []api.Slot{{Num: 2, B: 8}, {Num: 3, B: api.MaxGen}, {Num: 4, B: api.MaxGen}}
	if x := must(load.Sections(s))[0]; !slices.Equal(x.Slots, want) {
		t.Errorf("the entries are %v", x.Slots)
	}
	d := sample.Doc(1, root, api.Item{Num: 2, Gen: 8}, item(5, value.Null()))
	d.Trailer = sample.Dict("ID Info Root", value.Array(value.String("a")), value.Ref(9, 9), value.Ref(1, 0))
	s += updates(t, s, d)
	d.Trailer = sample.Dict("ID Root", value.Array(value.String("b")), value.Ref(1, 0))
	s += updates(t, s, d)
	if x := must(load.Sections(s))[0]; len(x.Slots) > 0 || !slices.Equal(x.Trailer.Keys, []string{"ID", "Prev", "Root", "Size"}) {
		t.Errorf("the section is %s", brief(x))
	}
	g := sample.NewFile()
	g.Pack(4, "", []int{1, 2, 3}, "<<>>", "2", "3")
	g.End(g.Cross(5, "/Size 6/Root 1 0 R"))
	s = g.Text() + updates(t, g.Text(), sample.Doc(1, root, item(3, value.Int(3))))
	if x := must(load.Sections(s))[0]; !slices.Equal(x.Slots, []api.Slot{{Num: 2, B: 1}, {Num: 6, Kind: api.SlotPlain, A: x.At}}) {
		t.Errorf("the entries are %v", x.Slots)
	}
}

// numbers returns the numbers of the objects and of the free entries in the newest section of a file.
func numbers(s string) (written, freed []int) {
	x := must(load.Sections(s))[0]
	for _, slot := range x.Slots {
		if slot.Kind == api.SlotFree {
			freed = append(freed, slot.Num)
		} else if slot.Num != x.Own {
			written = append(written, slot.Num)
		}
	}
	return written, freed
}

// Promises 28.1 and 28.3: what depends on the length that another object tells, and on the object streams that go, is written and freed with what changes.
func TestDependent(t *testing.T) {
	f := sample.NewFile()
	f.Item(1, 0, "<<>>")
	f.Stream(2, "/K 1", "3 0 R", "abc")
	f.Item(3, 0, "3")
	length := f.Pack(4, "5 0 R", []int{6, 7}, "(six)", "(seven)")
	f.Item(5, 0, fmt.Sprint(length))
	f.Pack(8, "", []int{9, 10}, "(nine)", "(ten)")
	f.Stream(11, "/Type/XRef", "3 0 R", "abc")
	f.Stream(12, "/Type/XRef", "", "abc")
	f.Stream(13, "", "", "abc")
	f.Enter(api.Slot{Num: 14, Kind: api.SlotPacked, A: 15})
	f.Enter(api.Slot{Num: 15, Kind: api.SlotPacked, A: 14})
	f.End(f.Cross(20, "/Size 21/Root 1 0 R"))
	s := f.Text()
	d := must(load.Strict(s))
	for _, c := range []struct {
		put            []api.Item
		drop           []int
		written, freed []int
	}{
		{[]api.Item{item(1, sample.Dict("A", value.Int(1)))}, nil, []int{1, 2, 6, 7}, []int{4, 11, 14, 15}},
		{[]api.Item{item(3, value.Int(2))}, nil, []int{2, 3, 6, 7}, []int{4, 11, 14, 15}},
		{nil, []int{2, 3, 5}, []int{6, 7}, []int{2, 3, 4, 5, 11, 14, 15}},
		{nil, []int{6, 9, 13}, []int{2, 7}, []int{4, 6, 9, 11, 13, 14, 15}},
		{[]api.Item{item(4, value.Null()), item(11, value.Null()), item(12, value.Null()), item(20, value.Null())}, nil, []int{2, 4, 6, 7, 11, 12, 20}, []int{14, 15}},
		{[]api.Item{item(8, value.Null())}, []int{10}, []int{2, 6, 7, 8, 9}, []int{4, 10, 11, 14, 15}},
		{[]api.Item{item(14, value.Null())}, nil, []int{2, 6, 7, 14}, []int{4, 11, 15}},
		{[]api.Item{item(14, value.Null()), item(15, value.Null())}, nil, []int{2, 6, 7, 14, 15}, []int{4, 11}},
	} {
		next := must(docs.Apply(d, c.put, c.drop))
		got := s + updates(t, s, next)
		if written, freed := numbers(got); !slices.Equal(written, c.written) || !slices.Equal(freed, c.freed) {
			t.Errorf("after %v and %v, %v are written and %v freed", c.put, c.drop, written, freed)
		}
		// Nothing depends on another object any more, so that nothing else is written the next time.
		next = must(docs.Put(next, item(30, value.Null())))
		got += updates(t, got, next)
		if written, freed := numbers(got); !slices.Equal(written, []int{30}) || len(freed) > 0 {
			t.Errorf("after one more, %v are written and %v freed", written, freed)
		}
	}
}

// Promise 28.1: as many runs of numbers as a cross-reference stream has room for, which a table always has.
func TestScattered(t *testing.T) {
	f := sample.NewFile()
	f.Item(1, 0, "<<>>")
	f.End(f.Cross(2, fmt.Sprintf("/Root 1 0 R/Size %d", api.MaxNum)))
	stream, table := f.Text(), must(whole.File(sample.Doc(1, item(1, sample.Dict("")))))
	d := sample.Doc(1, item(1, sample.Dict("")))
	for num := 3; num < api.MaxNum; num += 2 {
		d.Items = append(d.Items, item(num, value.Null()))
	}
	updates(t, table, d)
	updates(t, stream, d)
	d.Items[0].Obj = sample.Dict("A", value.Int(1))
	updates(t, table, d)
	refuses(t, api.ErrMany, stream, d)
	d.Items[1].Obj = streamOf(strings.Repeat("s", api.MaxData))
	refuses(t, api.ErrLong, table, d)
	refuses(t, api.ErrMany, stream, d)
	d.Items[2].Obj = crowded()
	refuses(t, api.ErrMany, table, d)
}

// Promise 28.1: the longest file.
func TestLongest(t *testing.T) {
	root := item(1, sample.Dict(""))
	of := func(size int) api.Doc { return sample.Doc(1, root, item(2, streamOf(strings.Repeat("s", size)))) }
	for _, s := range []string{must(whole.File(sample.Doc(1, root))), must(pack.File(sample.Doc(1, root), 1))} {
		s += strings.Repeat(" ", 1000)
		const about = api.MaxData - 4000
		size := about + api.MaxFile - len(must(update.To(s, of(about))))
		if got := s + updates(t, s, of(size)); len(got) != api.MaxFile {
			t.Errorf("the file has %d bytes", len(got))
		}
		refuses(t, api.ErrLong, s, of(size+1))
	}
}

// tooLong reports whether the update of a file to a document is too long.
func tooLong(s string, d api.Doc) bool {
	r, _ := read(s)
	_, e := to(r, d)
	return e == api.ErrLong
}

// Promises 28.3 and 28.4, and P1 and P2: files of other packages, updated to one document after the other.
func TestManyUpdates(t *testing.T) {
	packed := func(d api.Doc) (string, api.Errno) { return pack.File(d, 1) }
	for _, file := range []func(d api.Doc) (string, api.Errno){whole.File, packed} {
		targets := sample.Docs()[4:]
		s := must(file(targets[0]))
		ends, given := []int{len(s)}, targets[:1:1]
		for _, d := range targets[1:] {
			if tooLong(s, d) {
				refuses(t, api.ErrLong, s, d)
				continue
			}
			s += updates(t, s, d)
			ends, given = append(ends, len(s)), append(given, d)
		}
		if l := update.Revisions(s); !slices.Equal(l, ends) || len(ends) < 5 {
			t.Errorf("Revisions = %v, want %v", l, ends)
		}
		for n := range ends {
			back, e := update.Back(s, n+1)
			if d, err := load.Strict(back); e != api.OK || err != api.OK || !docs.Same(d, given[n]) {
				t.Errorf("Back(%d) = %s, %d", n+1, brief(back), e)
			}
		}
	}
}

// Promise 28.1: the same update is always the same, and neither what is handed in is changed nor is it shared.
func TestDeterminism(t *testing.T) {
	s, at := two()
	l := []api.Item{item(3, value.Array(value.Int(1))), item(2, sample.Dict("A", value.Int(2)))}
	drop := []int{2}
	first := must(update.Append(s, l, drop))
	second := must(update.Append(s, []api.Item{item(3, value.Array(value.Int(1))), item(2, sample.Dict("A", value.Int(2)))}, []int{2}))
	if first != second || l[0].Obj.Kids[0].N != 1 || l[1].Obj.Kids[0].N != 2 || drop[0] != 2 {
		t.Errorf("Append = %s, then %s", brief(first), brief(second))
	}
	if start, e := head.Start(first[:len(s)]); start != at || e != api.OK {
		t.Errorf("the start is %d, %d", start, e)
	}
	i, _, e := body.Read(first, len(s), -1)
	if i.Num != 2 || !value.Same(i.Obj, l[1].Obj) || e != api.OK {
		t.Errorf("the first object is %s, %d", brief(i), e)
	}
	revisions := update.Revisions(first)
	revisions[0] = 0
	if update.Revisions(first)[0] != len(s) {
		t.Errorf("Revisions shares its memory")
	}
}
