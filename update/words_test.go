package update_test

import (
	"fmt"
	"slices"
	"strings"
	"testing"

	"foliant/api"
	"foliant/body"
	"foliant/chain"
	"foliant/cross"
	"foliant/docs"
	"foliant/head"
	"foliant/load"
	"foliant/sample"
	"foliant/table"
	"foliant/update"
	"foliant/value"
)

// A reading is a file with what package load tells of it.
type reading struct {
	text     string
	doc      api.Doc
	sections []api.Section
	slots    []api.Slot
	start    int
}

// read reads a file, and reports whether it can be read strictly.
func read(s string) (reading, bool) {
	r := reading{text: s}
	d, e := load.Strict(s)
	if e != api.OK {
		return r, false
	}
	r.doc = d
	r.sections, _ = load.Sections(s)
	r.slots, _ = load.Slots(s)
	r.start, _ = head.Start(s)
	return r, true
}

// dependent reports whether the entry of a number is length-dependent.
func (r reading) dependent(num int) bool {
	slot, ok := chain.Find(r.slots, num)
	if !ok || slot.Kind != api.SlotPlain {
		return false
	}
	o, e := body.Length(r.text, slot.A)
	return e == api.OK && o.Kind == api.KRef
}

// changes returns, by the words of the chapter, the items of a target that are to be written, and the entries of the numbers that are to be freed.
func (r reading) changes(d api.Doc) (written []api.Item, freed []api.Slot) {
	has := func(num int) bool { _, ok := docs.Get(d, num); return ok }
	diff, gone := docs.Diff(r.doc, d)
	for _, i := range d.Items {
		slot, _ := chain.Find(r.slots, i.Num)
		write := slices.ContainsFunc(diff, func(other api.Item) bool { return other.Num == i.Num }) || r.dependent(i.Num)
		if slot.Kind == api.SlotPacked && (has(slot.A) || r.dependent(slot.A)) {
			write = true
		}
		if write {
			written = append(written, i)
		}
	}
	for _, slot := range r.slots {
		if has(slot.Num) || !slices.Contains(gone, slot.Num) && !r.dependent(slot.Num) && slot.Kind != api.SlotPacked {
			continue
		}
		gen := 0
		if slot.Kind == api.SlotPlain {
			gen = slot.B
		}
		freed = append(freed, api.Slot{Num: slot.Num, B: min(api.MaxGen, gen+1)})
	}
	return written, freed
}

// to updates a file by the words of the chapter.
func to(r reading, d api.Doc) (string, api.Errno) {
	if e := docs.Check(d); e != api.OK {
		return "", e
	}
	if docs.Same(r.doc, d) {
		return r.text, api.OK
	}
	if len(r.sections) == api.MaxChain {
		return "", api.ErrMany
	}
	written, x := r.changes(d)
	size := 0
	for _, i := range written {
		size = max(size, i.Num+1)
	}
	for _, slot := range r.slots {
		size = max(size, slot.Num+1)
	}
	if o, _ := value.Get(r.sections[0].Trailer, "Size"); o.Kind == api.KInt {
		size = max(size, int(o.N))
	}
	if r.sections[0].Own > 0 && size > api.MaxNum {
		return "", api.ErrFull
	}
	return put(r, d, written, x, size)
}

// put writes an update by the words of the chapter.
func put(r reading, d api.Doc, written []api.Item, slots []api.Slot, size int) (string, api.Errno) {
	s := r.text
	if !strings.HasSuffix(s, "\n") && !strings.HasSuffix(s, "\r") {
		s += "\n"
	}
	for _, i := range written {
		text, e := body.Text(i)
		if e != api.OK {
			return "", e
		}
		slots = append(slots, api.Slot{Num: i.Num, Kind: api.SlotPlain, A: len(s), B: i.Gen})
		s += text
	}
	at := len(s)
	if r.sections[0].Own > 0 {
		slots = append(slots, api.Slot{Num: size, Kind: api.SlotPlain, A: at})
	}
	slices.SortFunc(slots, func(a, b api.Slot) int { return a.Num - b.Num })
	x := api.Section{Slots: slots, Trailer: d.Trailer, Prev: r.start, Own: size}
	text, e := "", api.OK
	if r.sections[0].Own == 0 {
		x.Trailer, _ = value.Set(x.Trailer, "Prev", value.Int(int64(r.start)))
		x.Trailer, _ = value.Set(x.Trailer, "Size", value.Int(int64(size)))
		text, e = table.Text(x)
	} else if stream, err := cross.Make(x); err != api.OK {
		return "", err
	} else {
		text, e = body.Text(stream)
	}
	s += text + head.Tail(at)
	if len(s) > api.MaxFile && e == api.OK {
		e = api.ErrLong
	}
	if e != api.OK {
		return "", e
	}
	return s, api.OK
}

// pick returns a number from 0 to below, not included, that looks irregular.
func pick(seed *uint32, below int) int {
	*seed = *seed*1664525 + 1013904223
	return int(*seed>>8) % below
}

// The numbers that the files of mixed have: those of objects, of the lengths of some object streams, and of cross-reference streams, from each of these on.
const (
	objects = 9
	lengths = 10
	streams = 20
)

// mixed returns a file of some revisions, whose objects need each other in many ways. Some of these files can't be read.
func mixed(seed *uint32) string {
	f := sample.NewFile()
	prev := ""
	for i := range 1 + pick(seed, 3) {
		kind := pick(seed, 3)
		if i == 0 {
			f.Item(1, 0, "<</Type/Catalog>>")
			f.Item(2, 0, "3")
		}
		for range 1 + pick(seed, 5) {
			mixObject(f, seed, kind == 1)
		}
		trailer := prev + []string{"/Root 1 0 R", "/Root 1 0 R", "/Root 1 0 R/Info 5 0 R", "/Root 1 0 R/ID[(a)]"}[pick(seed, 4)]
		at := 0
		switch kind {
		case 0:
			at = f.Table(trailer + []string{"", "/Size 3", "/Size 30", "/Size -3", "/Size(x)", "/Size 9999"}[pick(seed, 6)])
		case 1:
			at = f.Cross(streams+i, trailer+[]string{"/Size 0", "/Size 3", "/Size 30", "/Size 8191", "/Size 8192"}[pick(seed, 14)%5])
		case 2:
			beside := sample.NewFile()
			beside.Put(f.Text()[len(beside.Text()):])
			mixPack(beside, seed)
			hybrid := beside.Cross(streams+5+i, "/Size 40")
			f.Put(beside.Text()[len(f.Text()):])
			at = f.Table(fmt.Sprintf("%s/XRefStm %d", trailer, hybrid))
		}
		f.End(at)
		prev = fmt.Sprintf("/Prev %d", at)
	}
	s := strings.TrimSuffix(f.Text(), "\n")
	return s + []string{"", "\n", "\r", "\r\n", "\n% end", " "}[pick(seed, 6)]
}

// mixObject puts an object, or frees a number.
func mixObject(f *sample.File, seed *uint32, mayPack bool) {
	num := 3 + pick(seed, objects-2)
	switch pick(seed, 8) {
	case 0:
		f.Enter(api.Slot{Num: num, B: pick(seed, 2)})
	case 1:
		f.Stream(num, "/K/V", "", "abc")
	case 2, 3:
		f.Stream(num, "/K/V", "2 0 R", "abc")
	case 4, 5:
		if mayPack {
			mixPack(f, seed)
		}
	case 6:
		if mayPack && pick(seed, 4) == 0 {
			f.Enter(api.Slot{Num: num, Kind: api.SlotPacked, A: 2 + num})
			f.Enter(api.Slot{Num: 2 + num, Kind: api.SlotPacked, A: num})
		}
	default:
		f.Item(num, pick(seed, 2)*pick(seed, 2)*api.MaxGen, []string{"[1 0 R]", "<<>>", "null", "3"}[pick(seed, 4)])
	}
}

// mixPack puts an object stream.
func mixPack(f *sample.File, seed *uint32) {
	num := 6 + pick(seed, objects-5)
	first := 2 + pick(seed, 4)
	texts := []string{"3", "3", "(x)"}
	if pick(seed, 2) == 0 {
		f.Pack(num, "", []int{first, 1 + first}, texts[min(first-2, 2)], "true")
		return
	}
	length := f.Pack(num, fmt.Sprint(lengths+num, " 0 R"), []int{first}, texts[min(first-2, 2)])
	f.Item(lengths+num, 0, fmt.Sprint(length))
}

// target returns a document that is one like d or another.
func target(d api.Doc, seed *uint32) api.Doc {
	for range pick(seed, 5) {
		num := 1 + pick(seed, streams+7)
		next := d
		var e api.Errno
		switch pick(seed, 5) {
		case 0:
			next, e = docs.Drop(d, num)
		case 1:
			next, e = docs.Put(d, api.Item{Num: num, Obj: api.Object{Kind: api.KStream, S: "new"}})
		case 2:
			next, e = docs.Put(d, api.Item{Num: num, Gen: pick(seed, 2), Obj: sample.Dict("A", value.Ref(2, 0))})
		case 3:
			next, e = docs.Put(d, api.Item{Num: num, Obj: value.Int(4)})
		case 4:
			next.Trailer = []api.Object{sample.Dict("Root", value.Ref(1, 0)), sample.Dict("ID Root", value.String("new"), value.Ref(1, 0))}[pick(seed, 2)]
		}
		if e == api.OK {
			d = next
		}
	}
	return d
}

// Promises 28.1, 28.3 and 28.4, and P1 and P2, held against the words of the chapter.
func TestByTheWords(t *testing.T) {
	counts := map[string]int{}
	for n := range uint32(2000) {
		seed := n
		r, ok := read(mixed(&seed))
		if !ok {
			continue
		}
		counts["read"]++
		before := update.Revisions(r.text)
		for range 4 {
			d := target(r.doc, &seed)
			want, err := to(r, d)
			s, e := update.To(r.text, d)
			if s != want || e != err {
				t.Fatalf("To(%q, %s) = %q, %d, want %q, %d", r.text, brief(d), s, e, want, err)
			}
			if e != api.OK {
				counts[fmt.Sprint(e)]++
				continue
			}
			checkUpdated(t, r, d, s, before)
			written, freed := r.changes(d)
			diff, gone := docs.Diff(r.doc, d)
			count(counts, "stream", r.sections[0].Own > 0)
			count(counts, "table", r.sections[0].Own == 0)
			count(counts, "hybrid", r.sections[0].Hybrid >= 0)
			count(counts, "same", s == r.text)
			count(counts, "more written", len(written) > len(diff))
			count(counts, "more freed", len(freed) > len(gone))
		}
	}
	for _, what := range []string{"read", "stream", "table", "hybrid", "same", "more written", "more freed", fmt.Sprint(api.ErrFull)} {
		if counts[what] < 100 {
			t.Errorf("%s: %d times only", what, counts[what])
		}
	}
}

// count counts what holds.
func count(counts map[string]int, what string, holds bool) {
	if holds {
		counts[what]++
	}
}

// checkUpdated checks that a file s that was updated to a document is read as that, and still holds the file that it was, which has the revisions before.
func checkUpdated(t *testing.T, r reading, d api.Doc, s string, before []int) {
	t.Helper()
	if got, e := load.Strict(s); !docs.Same(got, d) || e != api.OK || !strings.HasPrefix(s, r.text) {
		t.Fatalf("%q, updated to %s: %q, which is read as %s, %d", r.text, brief(d), s, brief(got), e)
	}
	if s == r.text {
		return
	}
	after := update.Revisions(s)
	if len(after) == 0 || after[len(after)-1] != len(s) {
		t.Fatalf("Revisions(%q) = %v", s, after)
	}
	// The line of the last end-of-file mark goes on to the end of line that the update adds.
	if n := len(before); n > 0 && before[n-1] == len(r.text) && !strings.ContainsAny(r.text[len(r.text)-1:], "\r\n") {
		before = append(before[:n-1:n-1], len(r.text)+1)
	}
	if !slices.Equal(after[:len(after)-1], before) {
		t.Fatalf("Revisions(%q) = %v, those before are %v", s, after, before)
	}
}
