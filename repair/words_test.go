package repair_test

import (
	"fmt"
	"slices"
	"strings"
	"testing"

	"foliant/api"
	"foliant/body"
	"foliant/docs"
	"foliant/octet"
	"foliant/packed"
	"foliant/parse"
	"foliant/repair"
	"foliant/resolve"
	"foliant/value"
)

// pick returns a number from 0 to below, not included, that looks irregular.
func pick(seed *uint32, below int) int {
	*seed = *seed*1664525 + 1013904223
	return int(*seed>>8) % below
}

// scan is Scan by the words of the chapter, and so are the other functions here.
func scan(s string) []api.Slot {
	found := map[int]api.Slot{}
	for at := range len(s) {
		if s[at] < '0' || s[at] > '9' || at > 0 && !octet.White(s[at-1]) {
			continue
		}
		if num, gen, _, e := body.Head(s, at); e == api.OK {
			found[num] = plain(num, at, gen)
		}
	}
	return sorted(found)
}

// sorted returns slots in increasing order of their numbers.
func sorted(found map[int]api.Slot) []api.Slot {
	var l []api.Slot
	for num := range api.MaxNum + 1 {
		if slot, ok := found[num]; ok {
			l = append(l, slot)
		}
	}
	return l
}

// byOffset returns slots in increasing order of their offsets.
func byOffset(l []api.Slot) []api.Slot {
	l = slices.Clone(l)
	slices.SortFunc(l, func(a, b api.Slot) int { return a.A - b.A })
	return l
}

// typed reports whether o is of a kind and a type.
func typed(o api.Object, kind int, name string) bool {
	v, ok := value.Get(o, "Type")
	return ok && o.Kind == kind && value.Same(v, value.Name(name))
}

func trailers(s string) []api.Object {
	var l []api.Object
	for at := range len(s) {
		if o, _, e := parse.Object(s, min(at+7, len(s))); octet.Begins(s, "trailer", at) && e == api.OK && o.Kind == api.KDict {
			l = append([]api.Object{o}, l...)
		}
	}
	for _, slot := range slices.Backward(byOffset(scan(s))) {
		if i, _, e := body.Read(s, slot.A, -1); e == api.OK && typed(i.Obj, api.KStream, "XRef") {
			l = append(l, api.Object{Kind: api.KDict, Keys: i.Obj.Keys, Kids: i.Obj.Kids})
		}
	}
	return l
}

func slots(s string) []api.Slot {
	found, scanned := map[int]api.Slot{}, scan(s)
	for _, slot := range byOffset(scanned) {
		stream, e := resolve.Item(s, scanned, slot.Num)
		if e != api.OK {
			continue
		}
		items, _ := packed.Read(stream.Obj)
		for place, i := range items {
			found[i.Num] = in(i.Num, slot.Num, place)
		}
	}
	for _, slot := range scanned {
		found[slot.Num] = slot
	}
	return sorted(found)
}

func file(s string) (api.Doc, []int, api.Errno) {
	items, failed := resolve.All(s, slots(s))
	if len(items) == 0 {
		return api.Doc{}, nil, api.ErrLost
	}
	d := api.Doc{Items: items}
	var last api.Item
	for _, i := range items {
		if typed(i.Obj, api.KDict, "Catalog") {
			last = i
		}
	}
	for _, o := range trailers(s) {
		to, _ := value.Get(o, "Root")
		if to.Kind == api.KRef && docs.Follow(d, to).Kind == api.KDict {
			d.Trailer = docs.Trailer(o)
			return d, failed, api.OK
		}
	}
	if last.Num == 0 {
		return api.Doc{}, nil, api.ErrTrail
	}
	d.Trailer = root(last.Num, last.Gen)
	return d, failed, api.OK
}

// piece returns a piece of a file, which fits others or does not.
func piece(seed *uint32) string {
	num := func() int { return 1 + pick(seed, 9) }
	switch pick(seed, 12) {
	case 0, 1:
		return fmt.Sprintf("\n%d %d obj<</Type/Catalog>>endobj", num(), pick(seed, 2))
	case 2:
		return fmt.Sprintf("\n%d 0 obj 3 endobj", num())
	case 3:
		return fmt.Sprintf("\n%d 0 obj<</Length %d 0 R>>stream\nabc\nendstream endobj", num(), num())
	case 4, 5:
		return fmt.Sprintf("\n%d 0 obj<</Length 14/Type/ObjStm/N 2/First 8>>stream\n%d 0 %d 2 1 <<>>\nendstream endobj", num(), num(), num())
	case 6:
		return fmt.Sprintf("\n%d 0 obj<</Length %d 0 R/Type/ObjStm/N 1/First 0>>stream\n3 0\nendstream endobj", num(), num())
	case 7, 8:
		return fmt.Sprintf("trailer<</Root %d %d R/Size 9>>", num(), pick(seed, 2))
	case 9:
		return fmt.Sprintf("\n%d 0 obj<</Length 0/Type/XRef/Root %d 0 R>>stream\nendstream endobj", num(), num())
	case 10:
		return "%"
	}
	tokens := []string{"1 ", "0 ", "obj ", "endobj\n", "%x\n", "(", ")", "trailer", "<<", ">>", "\r\n", "2", "R"}
	var s strings.Builder
	for range pick(seed, 9) {
		s.WriteString(tokens[pick(seed, len(tokens))])
	}
	return s.String()
}

// Promises 24.1 to 24.4 and 24.6, held against the words of the chapter.
func TestByTheWords(t *testing.T) {
	errors := map[api.Errno]int{}
	for n := range uint32(3000) {
		seed := n
		var text strings.Builder
		for range 1 + pick(&seed, 12) {
			text.WriteString(piece(&seed))
		}
		s := []byte(text.String())
		for range pick(&seed, 4) {
			if len(s) > 0 {
				s[pick(&seed, len(s))] = " 1%\nR()<x"[pick(&seed, 9)]
			}
		}
		errors[checkWords(t, string(s))]++
	}
	for _, e := range []api.Errno{api.OK, api.ErrLost, api.ErrTrail} {
		if errors[e] < 100 {
			t.Errorf("the error %d comes %d times only", e, errors[e])
		}
	}
}

// checkWords holds what the package answers for a file against the words of the chapter, and returns the error of File.
func checkWords(t *testing.T, s string) api.Errno {
	t.Helper()
	if got, want := repair.Scan(s), scan(s); !slices.Equal(got, want) {
		t.Errorf("Scan(%q) = %v, want %v", s, got, want)
	}
	if got, want := repair.Trailers(s), trailers(s); !slices.EqualFunc(got, want, value.Same) {
		t.Errorf("Trailers(%q) = %s, want %s", s, brief(got), brief(want))
	}
	if got, want := repair.Slots(s), slots(s); !slices.Equal(got, want) {
		t.Errorf("Slots(%q) = %v, want %v", s, got, want)
	}
	d, failed, e := repair.File(s)
	want, lost, err := file(s)
	if !docs.Same(d, want) || !slices.Equal(failed, lost) || e != err {
		t.Errorf("File(%q) = %s, %v, %d, want %s, %v, %d", s, brief(d), failed, e, brief(want), lost, err)
	}
	if e == api.OK && docs.Check(d) != api.OK {
		t.Errorf("File(%q) = %s, which is not valid", s, brief(d))
	}
	return e
}

// Promise 24.6: a file with any of its bytes changed.
func TestDamagedFile(t *testing.T) {
	s := "%PDF-1.4\n1 0 obj<</Type/Catalog/P 2 0 R>>endobj\n2 0 obj[(a)3 0 R]endobj" + holding("9 0 obj", 3, 4) + "5 0 obj<</Length 6 0 R>>stream\nabc\nendstream endobj 6 0 obj 3 endobj\ntrailer<</Root 1 0 R/Size 9>>\nstartxref 0 %%EOF"
	for at := range len(s) {
		for _, c := range "\x00 1%(R" {
			checkWords(t, s[:at]+string(c)+s[at+1:])
		}
		checkWords(t, s[:at])
		checkWords(t, s[at:])
	}
}
