package resolve_test

import (
	"fmt"
	"math"
	"slices"
	"strconv"
	"strings"
	"testing"

	"foliant/api"
	"foliant/filter"
	"foliant/packed"
	"foliant/resolve"
	"foliant/sample"
	"foliant/value"
)

// brief shows the beginning of anything.
func brief(x any) string { return fmt.Sprintf("%.300s", fmt.Sprintf("%q", fmt.Sprint(x))) }

// sameItem reports whether two items are equal.
func sameItem(a, b api.Item) bool {
	return a.Num == b.Num && a.Gen == b.Gen && value.Same(a.Obj, b.Obj)
}

// A builder writes a file and the entries of its objects.
type builder struct {
	text  strings.Builder
	slots []api.Slot
}

// add writes an object, and returns its offset.
func (b *builder) add(num, gen int, text string) int {
	b.text.WriteString("\n")
	at := b.text.Len()
	b.text.WriteString(fmt.Sprintf("%d %d obj %s", num, gen, text))
	b.slots = append(b.slots, api.Slot{Num: num, Kind: api.SlotPlain, A: at, B: gen})
	return at
}

// put writes an object that has nothing wrong.
func (b *builder) put(num int, text string) { b.add(num, 0, text+" endobj") }

// stream writes a stream with the given entries.
func (b *builder) stream(num int, entries, data string) {
	b.put(num, "<<"+entries+">>stream\n"+data+"\nendstream")
}

// pack writes an object stream of items, whose length is told as given, or directly if it is not; entries of the items follow. It returns the length.
func (b *builder) pack(num int, length string, items ...api.Item) int {
	o, e := packed.Make(items)
	if e != api.OK {
		panic(fmt.Sprint("no such stream: ", e))
	}
	b.store(num, length, o)
	for place, i := range items {
		b.slots = append(b.slots, api.Slot{Num: i.Num, Kind: api.SlotPacked, A: num, B: place})
	}
	return len(o.S)
}

// store writes an object stream that packed.Make or filter.Encode made.
func (b *builder) store(num int, length string, o api.Object) {
	n, _ := value.Get(o, "N")
	first, _ := value.Get(o, "First")
	if length == "" {
		length = strconv.Itoa(len(o.S))
	}
	b.stream(num, fmt.Sprintf("/Type/ObjStm/N %d/First %d/Filter/FlateDecode/Length %s", n.N, first.N, length), o.S)
}

// change changes the entries of a number.
func (b *builder) change(num int, change func(slot *api.Slot)) {
	for i := range b.slots {
		if b.slots[i].Num == num {
			change(&b.slots[i])
		}
	}
}

// is checks that Item and All return the object with a number.
func (b *builder) is(t *testing.T, num int, want api.Item) {
	t.Helper()
	s := b.text.String()
	if i, e := resolve.Item(s, b.slots, num); !sameItem(i, want) || e != api.OK {
		t.Errorf("Item(%d) = %s, %d, want %s", num, brief(i), e, brief(want))
	}
	l, failed := resolve.All(s, b.slots)
	if !slices.ContainsFunc(l, func(i api.Item) bool { return sameItem(i, want) }) || slices.Contains(failed, num) {
		t.Errorf("All = %s, %v, want %s in it", brief(l), failed, brief(want))
	}
}

// fails checks that the object with a number can't be fetched.
func (b *builder) fails(t *testing.T, num int, want api.Errno) {
	t.Helper()
	s := b.text.String()
	if i, e := resolve.Item(s, b.slots, num); !sameItem(i, api.Item{}) || e != want {
		t.Errorf("Item(%s, %v, %d) = %s, %d, want %d", brief(s), b.slots, num, brief(i), e, want)
	}
	stored := slices.ContainsFunc(b.slots, func(slot api.Slot) bool { return slot.Num == num && slot.Kind >= 1 && slot.Kind <= 2 })
	stored = stored && !slices.Contains(resolve.Holds(b.slots), num)
	if l, failed := resolve.All(s, b.slots); slices.Contains(failed, num) != stored {
		t.Errorf("All(%s, %v) = %s, %v, where %d fails", brief(s), b.slots, brief(l), failed, num)
	}
}

// item returns an item of generation 0.
func item(num int, o api.Object) api.Item { return api.Item{Num: num, Obj: o} }

// streamOf returns a stream without entries.
func streamOf(data string) api.Object { return api.Object{Kind: api.KStream, S: data} }

// Promise 23.1: plain entries.
func TestPlain(t *testing.T) {
	var b builder
	b.put(1, "<</A 2 0 R>>")
	b.put(2, "7")
	b.add(3, 5, "null endobj")
	b.add(4, api.MaxGen, "[4 0 R]endobj")
	b.stream(5, "/Length 3", "abc")
	b.put(api.MaxNum, "(x)")
	b.stream(6, "/Type/ObjStm/N 0/First 0/Length 0", "")
	b.stream(7, "/Type/XRef/Length 2", "xx")
	b.is(t, 1, item(1, sample.Dict("A", value.Ref(2, 0))))
	b.is(t, 2, item(2, value.Int(7)))
	b.is(t, 3, api.Item{Num: 3, Gen: 5})
	b.is(t, 4, api.Item{Num: 4, Gen: api.MaxGen, Obj: value.Array(value.Ref(4, 0))})
	b.is(t, 5, item(5, streamOf("abc")))
	b.is(t, api.MaxNum, item(api.MaxNum, value.String("x")))
	for num, kind := range map[int]string{6: "ObjStm", 7: "XRef"} {
		i, e := resolve.Item(b.text.String(), b.slots, num)
		name, _ := value.Get(i.Obj, "Type")
		if !value.Same(name, value.Name(kind)) || i.Num != num || e != api.OK {
			t.Errorf("Item(%d) = %s, %d", num, brief(i), e)
		}
	}
	b.slots = append(b.slots, api.Slot{Num: 9, Kind: api.SlotPlain, A: 1})
	l, failed := resolve.All(b.text.String(), b.slots)
	if len(l) != 6 || !slices.Equal(failed, []int{9}) {
		t.Errorf("All = %s, %v", brief(l), failed)
	}
}

// Promise 23.1: what is wrong with a plain entry, or where it leads.
func TestPlainFails(t *testing.T) {
	for text, want := range map[string]api.Errno{
		"7": api.ErrEnd, "7 endstream": api.ErrForm, "x endobj": api.ErrForm, "[": api.ErrEnd, ") endobj": api.ErrForm, "2 0 R endobj": api.ErrKind, "<</A 1/A 1>>endobj": api.ErrTwice,
		"<<>>stream\nendstream endobj": api.ErrForm, "<</Length -1>>stream\nendstream endobj": api.ErrRange, "<</Length 1.0>>stream\n endstream endobj": api.ErrKind, "<</Length 1048577>>stream\n": api.ErrLong, "<</Length 9>>stream\nx": api.ErrEnd, "<</Length 1>>stream\nxx endstream endobj": api.ErrForm,
		"<</Length 4 0 R>>stream\nx endstream endobj": api.ErrNone, "<</Length 4 0 R": api.ErrEnd, "<</Length 4 0 R>>": api.ErrEnd, "<</Length 4 0 R>>x": api.ErrForm, "[4 0 R]stream\n": api.ErrForm,
	} {
		var b builder
		b.add(3, 0, text)
		b.fails(t, 3, want)
	}
	var b builder
	b.put(1, "7")
	b.add(2, 3, "8 endobj")
	for _, num := range []int{0, -1, 3, api.MaxNum, math.MaxInt, math.MinInt} {
		b.fails(t, num, api.ErrNone)
	}
	for _, c := range []struct {
		num, a, b int
		want      api.Errno
	}{
		{1, 1, 1, api.ErrPlace}, {2, 1, 0, api.ErrPlace}, {0, 1, 0, api.ErrPlace}, {-1, 1, 0, api.ErrPlace}, {1, 1, -1, api.ErrPlace}, {1, b.slots[1].A, 3, api.ErrPlace}, {2, b.slots[1].A, 0, api.ErrPlace}, {2, b.slots[1].A, 4, api.ErrPlace},
		{1, -1, 0, api.ErrArg}, {1, b.text.Len() + 1, 0, api.ErrArg}, {1, math.MaxInt, 0, api.ErrArg}, {1, math.MinInt, 0, api.ErrArg}, {1, b.text.Len(), 0, api.ErrEnd}, {1, 2, 0, api.ErrRange}, {1, 4, 0, api.ErrForm},
	} {
		b.slots = []api.Slot{{Num: c.num, Kind: api.SlotPlain, A: c.a, B: c.b}}
		b.fails(t, c.num, c.want)
	}
	b.slots = []api.Slot{{Num: 1, Kind: api.SlotPlain}}
	b.is(t, 1, item(1, value.Int(7)))
	for _, kind := range []int{api.SlotFree, 3, -1, 99} {
		b.slots = []api.Slot{{Num: 1, Kind: kind, A: 1}}
		b.fails(t, 1, api.ErrNone)
		if l, failed := resolve.All(b.text.String(), b.slots); len(l) > 0 || len(failed) > 0 {
			t.Errorf("All of an entry of kind %d = %s, %v", kind, brief(l), failed)
		}
	}
	b.slots = []api.Slot{{Num: 1, Kind: api.SlotPlain, A: 1}, {Num: 1, Kind: api.SlotFree}, {Num: 2, Kind: api.SlotPlain, A: 1}, {Num: 2, Kind: api.SlotPlain, A: 17, B: 3}}
	b.is(t, 1, item(1, value.Int(7)))
	b.fails(t, 2, api.ErrPlace)
}

// Promise 23.1: streams whose length stands in another object.
func TestLength(t *testing.T) {
	var b builder
	b.stream(4, "/Length 5 9 R/A 1", "abc")
	b.add(5, 2, "+003 endobj")
	b.stream(6, "/Length 5 0 R", "xyz")
	b.put(7, "<</Length 8 0 R>>")
	b.put(8, "<</Length 8 0 R>>")
	b.is(t, 4, item(4, api.Object{Kind: api.KStream, Keys: []string{"A"}, Kids: []api.Object{value.Int(1)}, S: "abc"}))
	b.is(t, 6, item(6, streamOf("xyz")))
	b.is(t, 7, item(7, sample.Dict("Length", value.Ref(8, 0))))
	b.is(t, 8, item(8, sample.Dict("Length", value.Ref(8, 0))))
	b.change(5, func(slot *api.Slot) { slot.B = 9 })
	b.fails(t, 4, api.ErrPlace)
	b.change(5, func(slot *api.Slot) { slot.Kind = api.SlotFree })
	b.fails(t, 6, api.ErrNone)
	b.slots = b.slots[:1]
	b.fails(t, 4, api.ErrNone)
}

// Promise 23.1: what is wrong with an object that tells a length.
func TestLengthFails(t *testing.T) {
	for text, want := range map[string]api.Errno{
		"2": api.ErrForm, "0": api.ErrForm, "300": api.ErrEnd, "1048577": api.ErrLong, "2147483647": api.ErrLong,
		"-1": api.ErrKind, "-3": api.ErrKind, "3.": api.ErrKind, "null": api.ErrKind, "/A": api.ErrKind, "(3)": api.ErrKind, "[3]": api.ErrKind, "<</Length 3>>": api.ErrKind, "<</Length 3>>stream\nabc endstream": api.ErrKind, "true": api.ErrKind,
		"4 0 R": api.ErrKind, "5 0 R": api.ErrKind, ")": api.ErrForm, "": api.ErrForm, "<</Length 4 0 R>>stream\nabc endstream": api.ErrLoop, "<</Length 5 0 R>>stream\nabc endstream": api.ErrLoop, "<</Length 6 0 R>>stream\nabc endstream": api.ErrNone,
	} {
		var b builder
		b.stream(4, "/Length 5 0 R", "abc")
		b.put(5, text)
		b.fails(t, 4, want)
	}
}

// Promise 23.1: packed entries.
func TestPacked(t *testing.T) {
	var b builder
	b.pack(9, "", item(3, value.Int(7)), item(5, value.Null()), item(2, value.Array(value.Ref(3, 0))))
	length := b.pack(8, "11 0 R", item(10, value.Name("x")), item(12, value.Int(3)))
	b.put(11, strconv.Itoa(length))
	b.stream(6, "/Length 12 0 R", "abc")
	b.is(t, 3, item(3, value.Int(7)))
	b.is(t, 5, item(5, value.Null()))
	b.is(t, 2, item(2, value.Array(value.Ref(3, 0))))
	b.is(t, 10, item(10, value.Name("x")))
	b.is(t, 12, item(12, value.Int(3)))
	b.is(t, 6, item(6, streamOf("abc")))
	if i, e := resolve.Item(b.text.String(), b.slots, 9); i.Num != 9 || i.Obj.Kind != api.KStream || e != api.OK {
		t.Errorf("Item(9) = %s, %d", brief(i), e)
	}
	l, failed := resolve.All(b.text.String(), b.slots)
	if len(l) != 7 || len(failed) > 0 {
		t.Errorf("All = %s, %v", brief(l), failed)
	}
}

// Promise 23.1: what is wrong with a packed entry, or where it leads.
func TestPackedFails(t *testing.T) {
	of := func(num, a, b int) api.Slot { return api.Slot{Num: num, Kind: api.SlotPacked, A: a, B: b} }
	var b builder
	b.pack(9, "", item(3, value.Int(7)), item(5, value.Null()))
	b.put(4, "7")
	b.stream(6, "/Type/ObjStm/N 2/First 8/Length 14", "1 0 2 3 12 0 R")
	b.stream(7, "/Length 3", "abc")
	b.add(8, 0, "[)")
	b.stream(10, "/Type/ObjStm/N 2/First 8/Length 12", "1 0 2 3 12 x")
	own := b.slots
	for _, c := range []struct {
		slot api.Slot
		want api.Errno
	}{
		{of(3, 9, 0), api.OK}, {of(3, 9, 1), api.ErrPlace}, {of(4, 9, 0), api.ErrPlace}, {of(0, 9, 0), api.ErrPlace}, {of(3, 9, 2), api.ErrRange}, {of(3, 9, -1), api.ErrRange}, {of(3, 9, math.MaxInt), api.ErrRange}, {of(3, 9, math.MinInt), api.ErrRange},
		{of(3, 4, 0), api.ErrKind}, {of(3, 4, -1), api.ErrKind}, {of(3, 7, 0), api.ErrStream}, {of(3, 7, -1), api.ErrStream}, {of(3, 8, 0), api.ErrForm}, {of(3, 8, -1), api.ErrForm},
		{of(3, 11, 0), api.ErrStream}, {of(3, 0, 0), api.ErrStream}, {of(3, -1, 0), api.ErrStream}, {of(3, math.MaxInt, 0), api.ErrStream}, {of(3, 3, 0), api.ErrStream}, {of(3, 5, 0), api.ErrStream},
		{of(1, 6, 0), api.ErrKind}, {of(2, 6, 0), api.ErrKind}, {of(2, 6, 1), api.OK}, {of(1, 6, 1), api.ErrPlace}, {of(2, 6, 2), api.ErrRange}, {of(1, 10, 0), api.OK}, {of(2, 10, 1), api.ErrForm}, {of(2, 10, 0), api.ErrPlace}, {of(1, 10, 1), api.ErrForm},
	} {
		b.slots = append([]api.Slot{c.slot}, own...)
		if c.want != api.OK {
			b.fails(t, c.slot.Num, c.want)
			continue
		}
		want, e := resolve.Item(b.text.String(), b.slots, c.slot.Num)
		if e != api.OK || want.Num != c.slot.Num || want.Gen != 0 {
			t.Errorf("Item of %v = %s, %d", c.slot, brief(want), e)
		}
		b.is(t, c.slot.Num, want)
	}
	for _, kind := range []int{api.SlotFree, api.SlotPacked, 3} {
		b.slots = slices.Clone(own)
		b.change(9, func(slot *api.Slot) { slot.Kind = kind })
		b.fails(t, 3, api.ErrStream)
	}
	b.slots = append([]api.Slot{{Num: 9, Kind: api.SlotFree}}, own...)
	b.fails(t, 3, api.ErrStream)
	b.slots = slices.Clone(own)
	b.change(9, func(slot *api.Slot) { slot.B = 1 })
	b.fails(t, 3, api.ErrPlace)
}

// Promise 23.1: lengths and object streams that lead back to themselves.
func TestLoops(t *testing.T) {
	var b builder
	b.stream(1, "/Length 1 0 R", "abc")
	b.stream(2, "/Length 3 0 R", "abc")
	b.stream(3, "/Length 4 0 R", "abc")
	b.stream(4, "/Length 3 0 R", "abc")
	b.stream(5, "/Length 2 0 R", "abc")
	b.pack(6, "7 0 R", item(7, value.Int(9)), item(8, value.Int(9)))
	b.stream(9, "/Length 8 0 R", "abc")
	b.stream(10, "/Length 9 0 R", "abc")
	for _, num := range []int{1, 2, 3, 4, 5, 7, 8, 9, 10, 6} {
		b.fails(t, num, api.ErrLoop)
	}
	l, failed := resolve.All(b.text.String(), b.slots)
	if len(l) > 0 || !slices.Equal(failed, []int{1, 2, 3, 4, 5, 7, 8, 9, 10}) {
		t.Errorf("All = %s, %v", brief(l), failed)
	}
}

// Promise 23.1.
func TestHolds(t *testing.T) {
	of := func(num, a int) api.Slot { return api.Slot{Num: num, Kind: api.SlotPacked, A: a} }
	for _, c := range []struct {
		l    []api.Slot
		want []int
	}{
		{nil, nil},
		{[]api.Slot{{Num: 1, Kind: api.SlotPlain, A: 5}, {Num: 2, A: 6}, {Num: 3, Kind: 3, A: 7}}, nil},
		{[]api.Slot{of(1, 9), of(2, 3), {Num: 3, Kind: api.SlotPlain, A: 1}, of(4, 9), of(2, 7), of(5, 3)}, []int{3, 7, 9}},
		{[]api.Slot{of(1, 0), of(2, math.MaxInt), of(3, -1), of(4, math.MinInt)}, []int{math.MinInt, -1, 0, math.MaxInt}},
		{[]api.Slot{{Num: 1}, of(1, 4)}, []int{4}},
	} {
		if got := resolve.Holds(c.l); !slices.Equal(got, c.want) {
			t.Errorf("Holds(%v) = %v, want %v", c.l, got, c.want)
		}
	}
}

// Promise 23.2.
func TestAll(t *testing.T) {
	var b builder
	b.put(12, "12")
	b.stream(5, "/Type/XRef/Length 0", "")
	b.stream(6, "/Type/ObjStm/Length 0", "")
	b.stream(7, "/Type/Xref/Length 0", "")
	b.stream(8, "/Type(XRef)/Length 0", "")
	b.put(9, "<</Type/XRef>>")
	b.put(10, "/ObjStm")
	b.add(11, 0, "[")
	b.put(2, "2")
	b.pack(4, "", item(3, value.Int(3)), item(1, value.Int(1)))
	b.slots = append(b.slots, api.Slot{Num: 13, Kind: api.SlotPacked, A: 2}, api.Slot{Num: 14}, api.Slot{Num: 15, Kind: api.SlotPlain, A: -1}, api.Slot{Num: 16, Kind: 3}, api.Slot{Num: -5, Kind: api.SlotPlain, A: 1}, api.Slot{Num: 12, Kind: api.SlotPlain, A: 1}, api.Slot{Num: 9, Kind: api.SlotFree})
	l, failed := resolve.All(b.text.String(), b.slots)
	var nums []int
	for _, i := range l {
		nums = append(nums, i.Num)
		if one, e := resolve.Item(b.text.String(), b.slots, i.Num); !sameItem(one, i) || e != api.OK {
			t.Errorf("All has %s, Item %s, %d", brief(i), brief(one), e)
		}
	}
	if !slices.Equal(nums, []int{1, 3, 7, 8, 9, 10, 12}) || !slices.Equal(failed, []int{-5, 11, 13, 15}) {
		t.Errorf("All has %v, and %v failed", nums, failed)
	}
	if l, failed := resolve.All(b.text.String(), nil); len(l) > 0 || len(failed) > 0 {
		t.Errorf("All without entries = %s, %v", brief(l), failed)
	}
}

// Promises 23.1 and 23.2, where each object needs the next one.
func TestLongWay(t *testing.T) {
	var b builder
	for num := 1; num < api.MaxNum; num++ {
		b.stream(num, fmt.Sprintf("/Length %d 0 R", num+1), "")
	}
	b.put(api.MaxNum, "0")
	s := b.text.String()
	l, failed := resolve.All(s, b.slots)
	if len(l) != 2 || len(failed) != api.MaxNum-2 || l[0].Num != api.MaxNum-1 {
		t.Errorf("All has %d items, and %d failed", len(l), len(failed))
	}
	for num, want := range map[int]api.Errno{1: api.ErrKind, api.MaxNum - 2: api.ErrKind, api.MaxNum - 1: api.OK, api.MaxNum: api.OK} {
		if i, e := resolve.Item(s, b.slots, num); e != want {
			t.Errorf("Item(%d) = %s, %d, want %d", num, brief(i), e, want)
		}
	}
}

// Promise 23.2: an object stream with as many objects as there may be, without an error and with one.
func TestLargeStream(t *testing.T) {
	for _, bad := range []int{-1, 8000} {
		var pairs, texts strings.Builder
		var b builder
		for i := range api.MaxNum - 1 {
			pairs.WriteString(fmt.Sprintf("%d %d ", i+2, texts.Len()))
			if i == bad {
				texts.WriteString("x")
			}
			texts.WriteString(fmt.Sprintf("[%d 0 R(%d)]", i+1, i))
			b.slots = append(b.slots, api.Slot{Num: i + 2, Kind: api.SlotPacked, A: 1, B: i})
		}
		dict := sample.Dict("First N Type", value.Int(int64(pairs.Len())), value.Int(api.MaxNum-1), value.Name("ObjStm"))
		o, e := filter.Encode(dict, []string{"FlateDecode"}, nil, pairs.String()+texts.String())
		if e != api.OK {
			t.Fatalf("Encode has the error %d", e)
		}
		b.store(1, "", o)
		l, failed := resolve.All(b.text.String(), b.slots)
		if len(l)+len(failed) != api.MaxNum-1 || !sameItem(l[5], item(7, value.Array(value.Ref(6, 0), value.String("5")))) {
			t.Errorf("All has %d items, and %d failed", len(l), len(failed))
		}
		if bad < 0 && len(failed) > 0 || bad >= 0 && !slices.Equal(failed, []int{bad + 2}) {
			t.Errorf("All fails for %v, and the object %d is bad", failed, bad)
		}
	}
}
