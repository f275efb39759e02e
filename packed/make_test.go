package packed_test

import (
	"math"
	"slices"
	"strings"
	"testing"

	"foliant/api"
	"foliant/body"
	"foliant/filter"
	"foliant/packed"
	"foliant/sample"
	"foliant/value"
)

// cases are items with the error that Make has for them, and none if they may be packed.
func cases() []struct {
	item api.Item
	want api.Errno
} {
	plain, typed := api.Object{Kind: api.KStream}, api.Object{Kind: api.KStream, Keys: []string{"Type"}, Kids: []api.Object{value.Name("ObjStm")}}
	return []struct {
		item api.Item
		want api.Errno
	}{
		{item(1, value.Null()), api.OK}, {item(api.MaxNum, value.Int(1)), api.OK}, {item(2, sample.Dict("Type", value.Name("ObjStm"))), api.OK}, {item(2, value.Array(value.Ref(2, 0))), api.OK}, {item(2, sample.Nest(value.Int(1), api.MaxDepth-1)), api.OK},
		{api.Item{Num: 1, Gen: 1, Obj: value.Int(1)}, api.ErrArg}, {api.Item{Num: 1, Gen: api.MaxGen, Obj: value.Null()}, api.ErrArg}, {item(1, plain), api.ErrArg}, {item(1, typed), api.ErrArg}, {api.Item{Num: 1, Gen: 1, Obj: plain}, api.ErrArg},
		{item(0, value.Int(1)), api.ErrRange}, {item(-1, value.Int(1)), api.ErrRange}, {item(api.MaxNum+1, plain), api.ErrRange}, {item(math.MaxInt, value.Ref(1, 0)), api.ErrRange}, {api.Item{Num: 1, Gen: -1, Obj: value.Int(1)}, api.ErrRange}, {api.Item{Num: 1, Gen: api.MaxGen + 1, Obj: value.Int(1)}, api.ErrRange},
		{item(1, value.Ref(1, 0)), api.ErrKind}, {api.Item{Num: 1, Gen: 1, Obj: value.Ref(1, 0)}, api.ErrKind}, {item(1, api.Object{Kind: 99}), api.ErrKind}, {item(1, value.Array(plain)), api.ErrKind}, {item(1, value.Name("\x00")), api.ErrForm}, {item(1, value.Int(api.MaxInt+1)), api.ErrRange},
		{api.Item{Num: 1, Gen: 1, Obj: value.String(strings.Repeat("s", api.MaxString+1))}, api.ErrLong}, {item(1, sample.Wide(api.MaxKids+1)), api.ErrMany}, {item(1, sample.Nest(value.Int(1), api.MaxDepth)), api.ErrDeep}, {item(1, api.Object{Kind: api.KStream, Keys: []string{"Length"}, Kids: []api.Object{value.Int(0)}}), api.ErrForm},
	}
}

// Promise 21.3.
func TestMay(t *testing.T) {
	for i, c := range cases() {
		if packed.May(c.item) != (c.want == api.OK) {
			t.Errorf("May %d = %t", i, packed.May(c.item))
		}
	}
}

// makes checks that Make has an error.
func makes(t *testing.T, want api.Errno, l ...api.Item) {
	t.Helper()
	if o, e := packed.Make(l); !value.Same(o, api.Object{}) || e != want {
		t.Errorf("Make(%s) = %s, %d, want %d", brief(l), brief(o), e, want)
	}
}

// some returns so many items with numbers from num on.
func some(num, count int) []api.Item {
	var l []api.Item
	for i := range count {
		l = append(l, item(num+i, value.Int(int64(i))))
	}
	return l
}

// Promise 21.3.
func TestMakeRefuses(t *testing.T) {
	bad := api.Object{Kind: 99}
	for _, c := range cases() {
		if c.want == api.OK {
			continue
		}
		makes(t, c.want, c.item)
		makes(t, c.want, item(9, value.Int(1)), c.item, item(9, bad), item(9, value.Int(1)))
		makes(t, c.want, append(some(100, api.MaxPack-1), c.item)...)
		makes(t, api.ErrMany, append(some(100, api.MaxPack), c.item)...)
	}
	makes(t, api.ErrMany, some(1, api.MaxPack+1)...)
	makes(t, api.ErrMany, slices.Repeat(some(0, 1), api.MaxPack+1)...)
	makes(t, api.ErrTwice, item(1, value.Int(1)), item(1, value.Int(1)))
	makes(t, api.ErrTwice, item(1, value.Int(1)), item(2, value.Int(1)), item(1, value.Int(2)), item(3, bad))
	makes(t, api.ErrTwice, append(some(1, api.MaxPack-1), item(50, value.Null()))...)
	makes(t, api.ErrKind, item(1, value.Int(1)), item(1, bad))
	makes(t, api.ErrArg, item(1, value.Int(1)), api.Item{Num: 1, Gen: 1, Obj: value.Int(1)})
	var long []api.Item
	for i := range 40 {
		long = append(long, item(i+1, value.String(strings.Repeat("s", api.MaxString))))
	}
	makes(t, api.ErrLong, long...)
}

// checkMade checks the stream that Make makes of items, and reads it.
func checkMade(t *testing.T, l []api.Item) {
	t.Helper()
	o, e := packed.Make(l)
	if e != api.OK {
		t.Errorf("Make(%s) has the error %d", brief(l), e)
		return
	}
	if !slices.Equal(o.Keys, []string{"Filter", "First", "N", "Type"}) || body.Check(item(1, o)) != api.OK {
		t.Errorf("Make(%s) = %s", brief(l), brief(o))
	}
	name, _ := value.Get(o, "Filter")
	n, _ := value.Get(o, "N")
	kind, _ := value.Get(o, "Type")
	if !value.Same(name, value.Name("FlateDecode")) || !value.Same(n, value.Int(int64(len(l)))) || !value.Same(kind, value.Name("ObjStm")) {
		t.Errorf("Make(%s) = %s", brief(l), brief(o))
	}
	if count, e := packed.Count(o); count != len(l) || e != api.OK {
		t.Errorf("Count = %d, %d, want %d", count, e, len(l))
	}
	checkRead(t, o, l)
	data, e := filter.Decode(o)
	if e != api.OK {
		t.Errorf("Decode has the error %d", e)
	}
	stored, e := filter.Plain(o, data)
	if e != api.OK {
		t.Errorf("Plain has the error %d", e)
	}
	checkRead(t, stored, l)
}

// Promises 21.3 and 21.4.
func TestMake(t *testing.T) {
	checkMade(t, nil)
	checkMade(t, []api.Item{item(3, value.Null()), item(5, value.Bool(true))})
	checkMade(t, []api.Item{item(api.MaxNum, value.Int(1)), item(1, value.Int(0)), item(7, value.Name("R"))})
	checkMade(t, some(1, api.MaxPack))
	checkMade(t, some(api.MaxNum-api.MaxPack+1, api.MaxPack))
	for _, c := range cases() {
		if c.want == api.OK {
			checkMade(t, []api.Item{c.item})
			checkMade(t, []api.Item{item(9, value.Int(7)), c.item, item(10, value.Int(0))})
		}
	}
	var list []api.Item
	for i, o := range sample.Objects() {
		if o.Kind == api.KRef {
			continue
		}
		list = append(list, item(1+(i*7)%api.MaxNum, o))
		if len(list) == 20 {
			checkMade(t, list)
			slices.Reverse(list)
			checkMade(t, list)
			list = nil
		}
	}
}

// Promise 21.3: neither what is handed in nor what is answered shares its memory.
func TestMakeKeepsItsArgument(t *testing.T) {
	l := []api.Item{item(3, value.Array(value.Int(1), value.Int(2))), item(2, sample.Dict("A", value.Int(3)))}
	was := []api.Item{item(3, value.Clone(l[0].Obj)), item(2, value.Clone(l[1].Obj))}
	o, _ := packed.Make(l)
	if !same(l, was) {
		t.Errorf("Make changes its argument to %s", brief(l))
	}
	copied := value.Clone(o)
	first, _ := packed.Read(o)
	first[0].Obj.Kids[0].N, first[1].Obj.Kids[0].N = 8, 9
	if l, _ := packed.Read(o); !same(l, was) || !value.Same(o, copied) {
		t.Errorf("Read = %s after a change of what it answered", brief(l))
	}
}
