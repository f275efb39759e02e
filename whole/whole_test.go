package whole_test

import (
	"fmt"
	"math"
	"slices"
	"strings"
	"testing"

	"foliant/api"
	"foliant/body"
	"foliant/docs"
	"foliant/load"
	"foliant/sample"
	"foliant/value"
	"foliant/whole"
	"foliant/write"
)

// brief shows the beginning of anything.
func brief(x any) string { return fmt.Sprintf("%.400s", fmt.Sprintf("%q", fmt.Sprint(x))) }

// item returns an item of generation 0.
func item(num int, o api.Object) api.Item { return api.Item{Num: num, Obj: o} }

// streamOf returns a stream without entries.
func streamOf(data string) api.Object { return api.Object{Kind: api.KStream, S: data} }

// crowded returns a stream that has no room for its length among its entries.
func crowded() api.Object {
	o := sample.Broad(api.MaxKids)
	o.Kind = api.KStream
	return o
}

// file writes a document by the words of the chapter.
func file(d api.Doc) (string, []api.Slot) {
	var s strings.Builder
	s.WriteString("%PDF-1.7\n%\xe2\xe3\xcf\xd3\n")
	offsets, gens, last := map[int]int{}, map[int]int{}, 0
	for _, i := range d.Items {
		offsets[i.Num], gens[i.Num], last = s.Len(), i.Gen, i.Num
		text, _ := body.Text(i)
		s.WriteString(text)
	}
	start := s.Len()
	fmt.Fprintf(&s, "xref\n0 %d\n", last+1)
	var slots []api.Slot
	for num := range last + 1 {
		if at, ok := offsets[num]; ok {
			fmt.Fprintf(&s, "%010d %05d n \n", at, gens[num])
			slots = append(slots, api.Slot{Num: num, Kind: api.SlotPlain, A: at, B: gens[num]})
			continue
		}
		slot := api.Slot{Num: num}
		if num == 0 {
			slot.B = api.MaxGen
		}
		for next := last; next > num; next-- {
			if _, ok := offsets[next]; !ok {
				slot.A = next
			}
		}
		fmt.Fprintf(&s, "%010d %05d f \n", slot.A, slot.B)
		slots = append(slots, slot)
	}
	trailer, _ := value.Set(d.Trailer, "Size", value.Int(int64(last+1)))
	text, _ := write.Text(trailer)
	fmt.Fprintf(&s, "trailer\n%s\nstartxref\n%d\n%%%%EOF\n", text, start)
	return s.String(), slots
}

// writes checks the file of a document, and that it is read as the document.
func writes(t *testing.T, d api.Doc) string {
	t.Helper()
	want, slots := file(d)
	s, e := whole.File(d)
	if s != want || e != api.OK {
		t.Errorf("File(%s) = %s, %d, want %s", brief(d), brief(s), e, brief(want))
		return ""
	}
	places, e := whole.Places(d)
	if !slices.Equal(places, slots) || e != api.OK {
		t.Errorf("Places(%s) = %s, %d, want %s", brief(d), brief(places), e, brief(slots))
	}
	got, r, e := load.Open(s)
	if !docs.Same(got, d) || r.Repaired || r.Sections != 1 || e != api.OK {
		t.Errorf("Open(File(%s)) = %s, %v, %d", brief(d), brief(got), r, e)
	}
	for _, slot := range places {
		if slot.Kind != api.SlotPlain {
			continue
		}
		i, _, e := body.Read(s, slot.A, -1)
		if was, _ := docs.Get(d, slot.Num); e != api.OK || i.Num != slot.Num || i.Gen != slot.B || !value.Same(i.Obj, was.Obj) {
			t.Errorf("object %d is %s, %d", slot.Num, brief(i), e)
		}
	}
	if l, e := load.Slots(s); !slices.Equal(l, places) || e != api.OK {
		t.Errorf("Slots(File(%s)) = %s, %d, want %s", brief(d), brief(l), e, brief(places))
	}
	return s
}

// refuses checks that a document has no file.
func refuses(t *testing.T, want api.Errno, d api.Doc) {
	t.Helper()
	if s, e := whole.File(d); s != "" || e != want {
		t.Errorf("File(%s) = %s, %d, want %d", brief(d), brief(s), e, want)
	}
	if l, e := whole.Places(d); len(l) > 0 || e != want {
		t.Errorf("Places(%s) = %s, %d, want %d", brief(d), brief(l), e, want)
	}
}

// Promise 26.1, by the example of the chapter and one of the document.
func TestExamples(t *testing.T) {
	s := writes(t, sample.Doc(2, item(2, sample.Dict(""))))
	want := "%PDF-1.7\n%\xe2\xe3\xcf\xd3\n2 0 obj\n<<>>\nendobj\nxref\n0 3\n0000000001 65535 f \n0000000000 00000 f \n0000000015 00000 n \ntrailer\n<</Root 2 0 R/Size 3>>\nstartxref\n35\n%%EOF\n"
	if s != want {
		t.Errorf("File = %q, want %q", s, want)
	}
	d := sample.Doc(1, item(1, sample.Dict("A", value.Ref(2, 0))), item(2, value.Int(7)))
	want = "%PDF-1.7\n%\xe2\xe3\xcf\xd3\n1 0 obj\n<</A 2 0 R>>\nendobj\n2 0 obj\n7\nendobj\nxref\n0 3\n0000000000 65535 f \n0000000015 00000 n \n0000000043 00000 n \ntrailer\n<</Root 1 0 R/Size 3>>\nstartxref\n60\n%%EOF\n"
	if s := writes(t, d); s != want {
		t.Errorf("File = %q, want %q", s, want)
	}
}

// Promises 26.1 and 26.2, and P1: documents with numbers that are free here and there, generations, and all that a trailer may have.
func TestFile(t *testing.T) {
	for _, d := range sample.Docs() {
		if want, _ := file(d); len(want) > api.MaxFile {
			refuses(t, api.ErrLong, d)
		} else {
			writes(t, d)
		}
	}
	d := sample.Doc(5, api.Item{Num: 2, Gen: api.MaxGen, Obj: streamOf("startxref 7 %%EOF")}, item(5, sample.Dict("")), api.Item{Num: 9, Gen: 1}, item(api.MaxNum, value.String("\ntrailer<<>>startxref")))
	d.Trailer = sample.Dict("ID Info Root", value.Array(value.String("xref"), value.String("startxref 1")), value.Ref(77, 0), value.Ref(5, 0))
	writes(t, d)
}

// Promise 26.1: the errors, in their order.
func TestErrors(t *testing.T) {
	root := item(1, sample.Dict(""))
	long := item(2, streamOf(strings.Repeat("s", api.MaxData)))
	refuses(t, api.ErrKind, api.Doc{})
	refuses(t, api.ErrTrail, sample.Doc(1))
	refuses(t, api.ErrTrail, sample.Doc(2, root, long))
	refuses(t, api.ErrTwice, sample.Doc(1, root, root, long))
	refuses(t, api.ErrRange, sample.Doc(1, root, item(2, crowded()), item(api.MaxNum+1, value.Null())))
	refuses(t, api.ErrRange, sample.Doc(1, root, item(math.MaxInt, value.Null())))
	refuses(t, api.ErrKind, sample.Doc(1, root, long, item(3, value.Ref(1, 0))))
	refuses(t, api.ErrForm, api.Doc{Items: []api.Item{root, item(2, crowded())}, Trailer: sample.Dict("Root Size", value.Ref(1, 0), value.Int(3))})
	refuses(t, api.ErrMany, sample.Doc(1, root, item(2, crowded())))
	refuses(t, api.ErrMany, sample.Doc(1, root, long, item(3, crowded())))
	refuses(t, api.ErrLong, sample.Doc(1, root, long))
	many := sample.Doc(1, root)
	for num := range 300 {
		many.Items = append(many.Items, item(num+2, long.Obj))
	}
	refuses(t, api.ErrLong, many)
	refuses(t, api.ErrMany, sample.Doc(1, append(many.Items, item(500, crowded()))...))
}

// Promise 26.1: a file so long that no table has its offsets.
func TestTooLongForATable(t *testing.T) {
	d := sample.Doc(1, item(1, sample.Dict("")))
	data := strings.Repeat("s", api.MaxData)
	for num := range api.MaxInt/api.MaxData + 9 {
		d.Items = append(d.Items, item(num+2, streamOf(data)))
	}
	if s, e := whole.File(d); s != "" || e != api.ErrLong {
		t.Errorf("File = %s, %d", brief(s), e)
	}
}

// Promise 26.1: the longest file.
func TestLongest(t *testing.T) {
	of := func(size int) api.Doc {
		return sample.Doc(1, item(1, sample.Dict("")), item(2, streamOf(strings.Repeat("s", size))))
	}
	const about = api.MaxData - 1000
	s, _ := whole.File(of(about))
	size := about + api.MaxFile - len(s)
	if s := writes(t, of(size)); len(s) != api.MaxFile {
		t.Errorf("the file has %d bytes", len(s))
	}
	refuses(t, api.ErrLong, of(size+1))
}

// Promise 26.3: the file depends on the document only, and neither is what is handed in changed nor is it shared.
func TestDeterminism(t *testing.T) {
	for _, d := range sample.Docs() {
		was := api.Doc{Trailer: value.Clone(d.Trailer)}
		for _, i := range d.Items {
			was.Items = append(was.Items, api.Item{Num: i.Num, Gen: i.Gen, Obj: value.Clone(i.Obj)})
		}
		s, e := whole.File(d)
		places, _ := whole.Places(d)
		for i := range places {
			places[i].A++
		}
		again, err := whole.File(was)
		if s != again || e != err || !docs.Same(d, was) {
			t.Errorf("File(%s) is not always the same", brief(d))
		}
		if l, _ := whole.Places(d); len(l) > 0 && l[0].A == places[0].A {
			t.Errorf("Places(%s) shares its memory", brief(d))
		}
	}
}
