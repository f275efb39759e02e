package resolve_test

import (
	"fmt"
	"slices"
	"strconv"
	"testing"

	"foliant/api"
	"foliant/body"
	"foliant/chain"
	"foliant/packed"
	"foliant/resolve"
	"foliant/value"
)

// fetch fetches an object by the words of the chapter, while the numbers of the set are being fetched.
func fetch(s string, l []api.Slot, num int, set []int) (api.Item, api.Errno) {
	slot, ok := chain.Find(l, num)
	if !ok || slot.Kind != api.SlotPlain && slot.Kind != api.SlotPacked {
		return api.Item{}, api.ErrNone
	}
	if slices.Contains(set, num) {
		return api.Item{}, api.ErrLoop
	}
	set = append(slices.Clip(set), num)
	if slot.Kind == api.SlotPlain {
		return fetchPlain(s, l, slot, set)
	}
	if stream, ok := chain.Find(l, slot.A); !ok || stream.Kind != api.SlotPlain {
		return api.Item{}, api.ErrStream
	}
	stream, e := fetch(s, l, slot.A, set)
	if e != api.OK {
		return api.Item{}, e
	}
	i, e := packed.Get(stream.Obj, slot.B)
	if e == api.OK && i.Num != num {
		return api.Item{}, api.ErrPlace
	}
	return i, e
}

func fetchPlain(s string, l []api.Slot, slot api.Slot, set []int) (api.Item, api.Errno) {
	length := -1
	if o, e := body.Length(s, slot.A); e == api.OK && o.Kind == api.KRef {
		i, e := fetch(s, l, int(o.N), set)
		if e != api.OK {
			return api.Item{}, e
		}
		if i.Obj.Kind != api.KInt || i.Obj.N < 0 {
			return api.Item{}, api.ErrKind
		}
		length = int(i.Obj.N)
	}
	i, _, e := body.Read(s, slot.A, length)
	if e == api.OK && (i.Num != slot.Num || i.Gen != slot.B) {
		return api.Item{}, api.ErrPlace
	}
	return i, e
}

// pick returns a number from 0 to below, not included, that looks irregular.
func pick(seed *uint32, below int) int {
	*seed = *seed*1664525 + 1013904223
	return int(*seed>>8) % below
}

// most is the greatest number in the files of mixed.
const most = 12

// mixed returns a file in which objects need each other in many ways, and their entries, some of which are wrong.
func mixed(seed uint32) (string, []api.Slot) {
	var b builder
	for num := 1; num <= most; num++ {
		length := strconv.Itoa(3)
		if pick(&seed, 2) == 0 {
			length = fmt.Sprintf("%d 0 R", 1+pick(&seed, most+1))
		}
		switch pick(&seed, 8) {
		case 0, 1:
			b.put(num, "3")
		case 2:
			b.put(num, "[3]")
		case 3, 4:
			b.stream(num, "/Length "+length, "abc")
		case 5:
			b.stream(num, "/Type/XRef/Length "+length, "abc")
		default:
			first, second := 1+pick(&seed, most), 1+pick(&seed, most)
			text := fmt.Sprintf("%02d 0 %02d 2 3 3", first, second)
			if length == "3" {
				length = strconv.Itoa(len(text))
			}
			b.stream(num, "/Type/ObjStm/N 2/First 10/Length "+length, text)
			for place, member := range []int{first, second} {
				b.slots = append(b.slots, api.Slot{Num: member, Kind: api.SlotPacked, A: num, B: place})
			}
		}
	}
	for i := range b.slots {
		if pick(&seed, 12) == 0 {
			b.slots[i].B = pick(&seed, 3)
		}
		other := pick(&seed, len(b.slots))
		if pick(&seed, 12) == 0 {
			b.slots[i].A = b.slots[other].A - pick(&seed, 2)
		}
		b.slots[i], b.slots[other] = b.slots[other], b.slots[i]
	}
	return b.text.String(), b.slots
}

// Promises 23.1 to 23.3, held against the words of the chapter.
func TestByTheWords(t *testing.T) {
	errors := map[api.Errno]int{}
	for seed := range uint32(3000) {
		s, l := mixed(seed)
		var items []api.Item
		var failed []int
		for num := -1; num <= most+1; num++ {
			want, e := fetch(s, l, num, nil)
			if got, err := resolve.Item(s, l, num); !sameItem(got, want) || err != e {
				t.Fatalf("Item(%q, %v, %d) = %s, %d, want %s, %d", s, l, num, brief(got), err, brief(want), e)
			}
			errors[e]++
			stored := slices.ContainsFunc(l, func(slot api.Slot) bool { return slot.Num == num && slot.Kind != api.SlotFree })
			if !stored || slices.Contains(resolve.Holds(l), num) {
				continue
			}
			name, _ := value.Get(want.Obj, "Type")
			if e != api.OK {
				failed = append(failed, num)
			} else if want.Obj.Kind != api.KStream || !value.Same(name, value.Name("XRef")) && !value.Same(name, value.Name("ObjStm")) {
				items = append(items, want)
			}
		}
		gotItems, gotFailed := resolve.All(s, l)
		if !slices.EqualFunc(gotItems, items, sameItem) || !slices.Equal(gotFailed, failed) {
			t.Fatalf("All(%q, %v) = %s, %v, want %s, %v", s, l, brief(gotItems), gotFailed, brief(items), failed)
		}
	}
	for _, e := range []api.Errno{api.OK, api.ErrNone, api.ErrLoop, api.ErrKind, api.ErrStream, api.ErrPlace, api.ErrRange, api.ErrForm} {
		if errors[e] < 20 {
			t.Errorf("the error %d comes %d times only", e, errors[e])
		}
	}
}
