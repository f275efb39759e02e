package shift_test

import (
	"fmt"
	"slices"
	"testing"

	"foliant/api"
	"foliant/docs"
	"foliant/graph"
	"foliant/sample"
	"foliant/shift"
	"foliant/value"
)

// brief shows the beginning of anything.
func brief(x any) string { return fmt.Sprintf("%.400s", fmt.Sprintf("%q", fmt.Sprint(x))) }

// item returns an item of generation 0.
func item(num int, o api.Object) api.Item { return api.Item{Num: num, Obj: o} }

// ref returns a reference of generation 0.
func ref(num int) api.Object { return sample.Ref(num, 0) }

// clone returns an equal document that shares no memory with d.
func clone(d api.Doc) api.Doc {
	d.Trailer = value.Clone(d.Trailer)
	d.Items = slices.Clone(d.Items)
	for i := range d.Items {
		d.Items[i].Obj = value.Clone(d.Items[i].Obj)
	}
	return d
}

// spoil changes all that an object has in memory of its own.
func spoil(o api.Object) {
	for i := range o.Keys {
		o.Keys[i] += "x"
	}
	for i := range o.Kids {
		spoil(o.Kids[i])
		o.Kids[i].N++
	}
}

// spoilDoc changes all that a document has in memory of its own.
func spoilDoc(d api.Doc) {
	spoil(d.Trailer)
	for i := range d.Items {
		spoil(d.Items[i].Obj)
		d.Items[i].Num++
	}
}

// isDoc checks a document and the error beside it.
func isDoc(t *testing.T, what string, got api.Doc, e api.Errno, want api.Doc, wantErr api.Errno) {
	t.Helper()
	if !docs.Same(got, want) || e != wantErr {
		t.Errorf("%s = %s, %d, want %s, %d", what, brief(got), e, brief(want), wantErr)
	}
}

// maps checks an answer of Map.
func maps(t *testing.T, d api.Doc, from, to []int, want api.Doc, wantErr api.Errno) {
	t.Helper()
	was, wasFrom, wasTo := clone(d), slices.Clone(from), slices.Clone(to)
	got, e := shift.Map(d, from, to)
	isDoc(t, "Map "+brief(from)+" to "+brief(to)+" in "+brief(d), got, e, want, wantErr)
	spoilDoc(got)
	if !docs.Same(d, was) || !slices.Equal(from, wasFrom) || !slices.Equal(to, wasTo) {
		t.Errorf("Map has changed its arguments, or shares memory with them")
	}
}

// compacts checks an answer of Compact.
func compacts(t *testing.T, d, want api.Doc) {
	t.Helper()
	was := clone(d)
	got := shift.Compact(d)
	isDoc(t, "Compact of "+brief(d), got, 0, want, 0)
	spoilDoc(got)
	if !docs.Same(d, was) {
		t.Errorf("Compact has changed its argument, or shares memory with it")
	}
}

// imports checks an answer of Import.
func imports(t *testing.T, d, other api.Doc, o api.Object, want api.Doc, wantObj api.Object, wantErr api.Errno) {
	t.Helper()
	wasD, wasOther, wasO := clone(d), clone(other), value.Clone(o)
	got, gotObj, e := shift.Import(d, other, o)
	isDoc(t, "Import of "+brief(o), got, e, want, wantErr)
	if !value.Same(gotObj, wantObj) {
		t.Errorf("Import of %s = %s, want %s", brief(o), brief(gotObj), brief(wantObj))
	}
	spoil(gotObj)
	isDoc(t, "what Import gave, its object changed,", got, e, want, wantErr)
	spoilDoc(got)
	if !docs.Same(d, wasD) || !docs.Same(other, wasOther) || !value.Same(o, wasO) {
		t.Errorf("Import has changed its arguments, or shares memory with them")
	}
}

// Promise 30.2, by the example of the chapter.
func TestExample(t *testing.T) {
	d := sample.Doc(5, item(5, sample.Dict("A B", ref(9), ref(7))), item(7, value.Name("seven")), item(9, value.Name("nine")))
	compacts(t, d, sample.Doc(1, item(1, sample.Dict("A B", ref(2), ref(3))), item(2, value.Name("nine")), item(3, value.Name("seven"))))
}

// Promise 30.2: the order of the trailer, items within items, generations, what can't be reached, and dangling references.
func TestCompact(t *testing.T) {
	stream := api.Object{Kind: api.KStream, Keys: []string{"A", "B", "C"}, Kids: []api.Object{ref(40), ref(99), value.Array(ref(99), ref(3))}, S: "40 0 R"}
	d := api.Doc{Items: []api.Item{
		item(2, value.Array(ref(90), ref(2), ref(8), sample.Ref(8, 1))),
		item(3, value.String("three")),
		{Num: 8, Gen: 1, Obj: value.Array(value.Null(), sample.Dict("A B", ref(8), ref(2)))},
		{Num: 20, Gen: 7, Obj: sample.Dict("Gone Kept", ref(3), ref(3))},
		item(40, value.Array(sample.Dict("X Y", ref(60), sample.Ref(20, 7)), ref(50))),
		{Num: 50, Gen: 3, Obj: value.Null()},
		{Num: 60, Gen: api.MaxGen, Obj: value.Int(60)},
		item(api.MaxNum, stream),
	}}
	d.Trailer = sample.Dict("ID Info Root", value.Array(sample.Ref(50, 3), ref(60)), ref(api.MaxNum), sample.Ref(20, 7))
	moved := api.Object{Kind: api.KStream, Keys: []string{"A", "C"}, Kids: []api.Object{ref(3), value.Array(value.Null(), ref(5))}, S: "40 0 R"}
	want := api.Doc{Items: []api.Item{
		item(1, value.Null()),
		item(2, moved),
		item(3, value.Array(sample.Dict("Y", ref(4)), value.Null())),
		item(4, sample.Dict("Gone Kept", ref(5), ref(5))),
		item(5, value.String("three")),
		item(6, value.Array(value.Null(), ref(6), value.Null(), ref(7))),
		item(7, value.Array(value.Null(), sample.Dict("B", ref(6)))),
		item(8, value.Int(60)),
	}}
	want.Trailer = sample.Dict("ID Info Root", value.Array(ref(1), value.Null()), ref(2), ref(4))
	compacts(t, d, want)
	compacts(t, want, want)

	d = sample.Doc(3, item(3, sample.Dict("")))
	d.Trailer = sample.Dict("ID Info Root", ref(4), sample.Ref(3, 1), ref(3))
	compacts(t, d, sample.Doc(1, item(1, sample.Dict(""))))
}

// Promise 30.2: there is nothing for what is invalid.
func TestCompactInvalid(t *testing.T) {
	for _, b := range sample.BadDocs() {
		compacts(t, b.Is, api.Doc{})
	}
}

// Promise 30.1: numbers that are exchanged, generations, and dangling references.
func TestMap(t *testing.T) {
	d := api.Doc{Items: []api.Item{
		{Num: 2, Gen: 5, Obj: sample.Dict("A B C D", sample.Ref(4, 1), ref(4), value.Array(ref(6), ref(9)), sample.Ref(2, 5))},
		{Num: 4, Gen: 1, Obj: value.Array(ref(3), ref(6), sample.Ref(2, 5), ref(2))},
		{Num: 6, Obj: api.Object{Kind: api.KStream, Keys: []string{"K", "L"}, Kids: []api.Object{sample.Ref(4, 1), ref(3)}, S: "4 1 R"}},
	}, Trailer: sample.Dict("ID Info Root", value.Array(sample.Ref(4, 1), ref(4)), ref(8), sample.Ref(2, 5))}
	doc := func(trailer api.Object, items ...api.Item) api.Doc { return api.Doc{Items: items, Trailer: trailer} }
	stream := func(o api.Object) api.Object {
		return api.Object{Kind: api.KStream, Keys: []string{"K"}, Kids: []api.Object{o}, S: "4 1 R"}
	}
	null := value.Null()

	two, four := sample.Ref(2, 5), sample.Ref(4, 1)
	maps(t, d, nil, nil, doc(sample.Dict("ID Root", value.Array(four, null), two),
		api.Item{Num: 2, Gen: 5, Obj: sample.Dict("A C D", four, value.Array(ref(6), null), two)},
		api.Item{Num: 4, Gen: 1, Obj: value.Array(null, ref(6), two, null)},
		item(6, stream(four))), api.OK)

	maps(t, d, []int{4}, []int{4}, doc(sample.Dict("ID Root", value.Array(ref(4), null), two),
		api.Item{Num: 2, Gen: 5, Obj: sample.Dict("A C D", ref(4), value.Array(ref(6), null), two)},
		item(4, value.Array(null, ref(6), two, null)),
		item(6, stream(ref(4)))), api.OK)

	maps(t, d, []int{4, 2}, []int{2, 4}, doc(sample.Dict("ID Root", value.Array(ref(2), null), ref(4)),
		item(2, value.Array(null, ref(6), ref(4), null)),
		item(4, sample.Dict("A C D", ref(2), value.Array(ref(6), null), ref(4))),
		item(6, stream(ref(2)))), api.OK)

	maps(t, d, []int{6, 2, 4}, []int{4, 9, api.MaxNum}, doc(sample.Dict("ID Root", value.Array(ref(api.MaxNum), null), ref(9)),
		item(4, stream(ref(api.MaxNum))),
		item(9, sample.Dict("A C D", ref(api.MaxNum), value.Array(ref(4), null), ref(9))),
		item(api.MaxNum, value.Array(null, ref(4), ref(9), null))), api.OK)

	maps(t, d, []int{6}, []int{1}, doc(sample.Dict("ID Root", value.Array(four, null), two),
		item(1, stream(four)),
		api.Item{Num: 2, Gen: 5, Obj: sample.Dict("A C D", four, value.Array(ref(1), null), two)},
		api.Item{Num: 4, Gen: 1, Obj: value.Array(null, ref(1), two, null)}), api.OK)
}

// Promise 30.1: the errors, in their order.
func TestMapErrors(t *testing.T) {
	d := sample.Doc(1, item(1, sample.Dict("A", ref(5))), item(2, value.Null()), item(5, value.Array(ref(1))))
	for _, c := range []struct {
		from, to []int
		want     api.Errno
	}{
		{[]int{1}, nil, api.ErrArg}, {nil, []int{1}, api.ErrArg}, {[]int{1, 2}, []int{3}, api.ErrArg}, {[]int{9}, []int{2, 4}, api.ErrArg},
		{[]int{0}, []int{3}, api.ErrArg}, {[]int{-1}, []int{3}, api.ErrArg}, {[]int{api.MaxNum + 1}, []int{3}, api.ErrArg}, {[]int{1}, []int{0}, api.ErrArg}, {[]int{1}, []int{-5}, api.ErrArg}, {[]int{1}, []int{api.MaxNum + 1}, api.ErrArg},
		{[]int{1, 1}, []int{7, 8}, api.ErrArg}, {[]int{1, 2}, []int{7, 7}, api.ErrArg}, {[]int{1, 2, 1}, []int{2, 3, 4}, api.ErrArg}, {[]int{2, 2}, []int{5, 5}, api.ErrArg},
		{[]int{3, 1}, []int{5, 0}, api.ErrArg}, {[]int{3, 3}, []int{5, 6}, api.ErrArg}, {[]int{3, 4}, []int{5, 5}, api.ErrArg}, {[]int{1, 9, 1}, []int{5, 6, 7}, api.ErrArg},
		{[]int{3}, []int{3}, api.ErrNone}, {[]int{api.MaxNum}, []int{1}, api.ErrNone}, {[]int{1, 3}, []int{2, 4}, api.ErrNone}, {[]int{4}, []int{5}, api.ErrNone},
		{[]int{1}, []int{2}, api.ErrTwice}, {[]int{2, 1}, []int{1, 5}, api.ErrTwice}, {[]int{5, 2}, []int{9, 1}, api.ErrTwice},
	} {
		maps(t, d, c.from, c.to, api.Doc{}, c.want)
	}
	for _, b := range sample.BadDocs() {
		maps(t, b.Is, []int{9}, nil, api.Doc{}, b.Err)
		maps(t, b.Is, nil, nil, api.Doc{}, b.Err)
	}
}

// Promise 30.1: as many numbers as there are, and more.
func TestMapLimits(t *testing.T) {
	d := sample.Chain(api.MaxNum, 0)
	d.Items[api.MaxNum-1].Obj.Kids[0] = ref(1)
	var from, to []int
	for num := 1; num <= api.MaxNum; num++ {
		from, to = append(from, num), append(to, api.MaxNum+1-num)
	}
	got, e := shift.Map(d, from, to)
	if e != api.OK || len(got.Items) != api.MaxNum || docs.Check(got) != api.OK || !shift.Alike(d, got) {
		t.Errorf("Map of all = %d items, %d", len(got.Items), e)
	}
	if next, _ := value.Get(got.Items[7000].Obj, "Next"); next.N != 7000 {
		t.Errorf("Map of all has %d after 7001", next.N)
	}
	if back, e := shift.Map(got, to, from); e != api.OK || !docs.Same(back, d) {
		t.Errorf("Map of all and back = %d", e)
	}
	maps(t, d, append(from, 1), append(to, 1), api.Doc{}, api.ErrArg)
	maps(t, sample.Doc(1, d.Items[:1]...), from, to, api.Doc{}, api.ErrNone)
}

// Promises 30.3 and 30.6.
func TestImport(t *testing.T) {
	d := sample.Doc(3, item(3, sample.Dict("A B", ref(8), sample.Ref(9, 9))), api.Item{Num: 7, Gen: 2, Obj: value.Array(ref(8))})
	d.Trailer = sample.Dict("Info Root", ref(8), ref(3))
	stream := api.Object{Kind: api.KStream, Keys: []string{"A", "B"}, Kids: []api.Object{ref(2), ref(3)}, S: "stream"}
	other := sample.Doc(1, item(1, sample.Dict("A B", ref(2), sample.Ref(4, 3))), item(2, value.Null()), item(3, stream), api.Item{Num: 4, Gen: 3, Obj: value.Array(ref(3), ref(1), ref(9))})
	with := func(items ...api.Item) api.Doc {
		return api.Doc{Items: append(slices.Clone(d.Items), items...), Trailer: d.Trailer}
	}
	moved := func(a, b int) api.Object {
		return api.Object{Kind: api.KStream, Keys: []string{"A", "B"}, Kids: []api.Object{ref(a), ref(b)}, S: "stream"}
	}

	imports(t, d, other, value.Int(5), d, value.Int(5), api.OK)
	imports(t, d, other, ref(5), d, value.Null(), api.OK)
	imports(t, d, other, ref(4), d, value.Null(), api.OK)
	imports(t, d, other, ref(2), with(item(8, value.Null())), ref(8), api.OK)
	imports(t, d, other, stream, with(item(8, value.Null()), item(9, moved(8, 9))), moved(8, 9), api.OK)
	imports(t, d, other, value.Array(ref(3), ref(9), ref(2), sample.Ref(2, 1)), with(item(8, moved(9, 8)), item(9, value.Null())), value.Array(ref(8), value.Null(), ref(9), value.Null()), api.OK)
	imports(t, d, other, sample.Dict("A B C", ref(7), sample.Ref(4, 3), value.Array()),
		with(item(8, value.Array(ref(9), ref(11), value.Null())), item(9, moved(10, 9)), item(10, value.Null()), item(11, sample.Dict("A B", ref(10), ref(8)))),
		sample.Dict("B C", ref(8), value.Array()), api.OK)
	imports(t, d, d, sample.Ref(7, 2), with(item(8, value.Array(value.Null()))), ref(8), api.OK)
	imports(t, d, d, sample.Dict("Root", ref(3)), with(item(8, sample.Dict(""))), sample.Dict("Root", ref(8)), api.OK)
	imports(t, d, other, sample.Nest(ref(2), api.MaxDepth-1), with(item(8, value.Null())), sample.Nest(ref(8), api.MaxDepth-1), api.OK)
}

// Promise 30.3: the errors, in their order.
func TestImportErrors(t *testing.T) {
	good := sample.Doc(1, item(1, sample.Dict("A", ref(2))), item(2, value.Null()))
	full := sample.Doc(api.MaxNum, item(api.MaxNum, sample.Dict("")))
	bad := api.Object{Kind: 99}
	for _, b := range sample.BadDocs() {
		imports(t, b.Is, sample.Doc(3, item(1, sample.Dict(""))), bad, api.Doc{}, api.Object{}, b.Err)
		imports(t, b.Is, good, ref(1), api.Doc{}, api.Object{}, b.Err)
		imports(t, full, b.Is, bad, api.Doc{}, api.Object{}, b.Err)
		imports(t, good, b.Is, ref(9), api.Doc{}, api.Object{}, b.Err)
	}
	for _, b := range sample.BadObjects() {
		imports(t, good, good, b.Is, api.Doc{}, api.Object{}, b.Err)
		imports(t, full, good, b.Is, api.Doc{}, api.Object{}, b.Err)
	}
	imports(t, full, good, ref(1), api.Doc{}, api.Object{}, api.ErrFull)
	imports(t, full, good, ref(3), full, value.Null(), api.OK)
	imports(t, full, full, value.Int(1), full, value.Int(1), api.OK)
	for room := range 3 {
		last := api.MaxNum - room
		d := sample.Doc(last, item(last, sample.Dict("")))
		if room < 2 {
			imports(t, d, good, value.Array(ref(1)), api.Doc{}, api.Object{}, api.ErrFull)
		} else {
			imports(t, d, good, value.Array(ref(1)), sample.Doc(last, item(last, sample.Dict("")), item(last+1, sample.Dict("A", ref(last+2))), item(last+2, value.Null())), value.Array(ref(last+1)), api.OK)
		}
	}
}

// Promise 30.4.
func TestAlike(t *testing.T) {
	d := sample.Doc(1, item(1, sample.Dict("A B", ref(2), ref(3))), item(2, value.Array(ref(1), ref(2))), item(3, value.Array(value.Null(), value.Int(7))))
	with := func(change func(d *api.Doc)) api.Doc {
		d := clone(d)
		change(&d)
		return d
	}
	other := sample.Doc(5, item(4, value.Array(ref(5), ref(4))), item(5, sample.Dict("A B", ref(4), sample.Ref(9, 2))), api.Item{Num: 9, Gen: 2, Obj: value.Array(value.Null(), value.Int(7))})
	for i, c := range []struct {
		b    api.Doc
		want bool
	}{
		{d, true}, {other, true},
		{with(func(d *api.Doc) { d.Items = append(d.Items, item(9, value.Array(ref(1), ref(8)))) }), true},
		{with(func(d *api.Doc) {
			d.Items[1].Gen = 6
			d.Items[0].Obj.Kids[0].G, d.Items[1].Obj.Kids[1].G = 6, 6
		}), true},
		{with(func(d *api.Doc) { d.Items[0].Obj = sample.Dict("A B C", ref(2), ref(3), ref(4)) }), true},
		{with(func(d *api.Doc) { d.Items[2].Obj.Kids[0] = ref(4) }), true},
		{with(func(d *api.Doc) { d.Trailer = sample.Dict("Info Root", ref(4), ref(1)) }), true},
		{with(func(d *api.Doc) { d.Items[0].Obj = sample.Dict("A B C", ref(2), ref(3), ref(3)) }), false},
		{with(func(d *api.Doc) { d.Items[2].Obj.Kids[0] = ref(3) }), false},
		{with(func(d *api.Doc) { d.Trailer = sample.Dict("Info Root", ref(1), ref(1)) }), false},
		{with(func(d *api.Doc) { d.Trailer = sample.Dict("ID Root", value.Int(1), ref(1)) }), false},
		{with(func(d *api.Doc) { d.Items[0].Obj = sample.Dict("A C", ref(2), ref(3)) }), false},
		{with(func(d *api.Doc) { d.Items[0].Obj.Kids[1] = ref(2) }), false},
		{with(func(d *api.Doc) { d.Items[0].Obj.Kids[0] = ref(4) }), false},
		{with(func(d *api.Doc) { d.Items[2].Obj.Kids[1].N = 8 }), false},
		{with(func(d *api.Doc) { d.Items[2].Obj.Kids = d.Items[2].Obj.Kids[1:] }), false},
		{with(func(d *api.Doc) { d.Items[2].Obj = api.Object{Kind: api.KStream} }), false},
		{with(func(d *api.Doc) { d.Items = d.Items[:2] }), false},
	} {
		was := clone(c.b)
		if shift.Alike(d, c.b) != c.want || shift.Alike(c.b, d) != c.want || !shift.Alike(c.b, c.b) {
			t.Errorf("Alike %d is not %v", i, c.want)
		}
		if !docs.Same(c.b, was) {
			t.Errorf("Alike %d changes its argument", i)
		}
	}
	for _, b := range sample.BadDocs() {
		if shift.Alike(b.Is, d) || shift.Alike(d, b.Is) || shift.Alike(b.Is, b.Is) {
			t.Errorf("%s is Alike", brief(b.Is))
		}
	}
}

// Promises 30.2 and 30.3: the longest chain.
func TestChain(t *testing.T) {
	d := sample.Chain(api.MaxNum-1, api.MaxDepth-2)
	slices.Reverse(d.Items)
	for i := range d.Items {
		d.Items[i].Num = i + 1
		d.Items[i].Obj.Kids[0] = sample.Nest(ref(max(i, 1)), api.MaxDepth-2)
	}
	d.Trailer = sample.Dict("Root", ref(api.MaxNum-1))
	got := shift.Compact(d)
	if next := graph.From(got, got.Items[100].Obj); len(next) != api.MaxNum-102 || next[0] != 102 {
		t.Errorf("%d items follow", len(next))
	}
	one := sample.Doc(1, item(1, sample.Dict("")))
	more, o, e := shift.Import(one, d, ref(api.MaxNum-1))
	if e != api.OK || len(more.Items) != api.MaxNum || o.N != 2 || docs.Check(more) != api.OK {
		t.Errorf("Import of a chain = %d items, %v, %d", len(more.Items), o, e)
	}
}
