package docs_test

import (
	"math"
	"slices"
	"testing"

	"foliant/api"
	"foliant/docs"
	"foliant/sample"
	"foliant/value"
)

// spoilObject changes all that an object has in memory of its own.
func spoilObject(o api.Object) {
	for i := range o.Keys {
		o.Keys[i] += "x"
	}
	for i := range o.Kids {
		spoilObject(o.Kids[i])
		o.Kids[i].N++
	}
}

// spoil changes all that a document has in memory of its own.
func spoil(d api.Doc) {
	spoilObject(d.Trailer)
	for i := range d.Items {
		spoilObject(d.Items[i].Obj)
		d.Items[i].Num++
	}
}

// checkDoc holds a result against what it should be, and its memory against that of the argument it comes from.
func checkDoc(t *testing.T, what string, from, got api.Doc, e api.Errno, want api.Doc, wantErr api.Errno) {
	t.Helper()
	if !same(got, want) || e != wantErr {
		t.Errorf("%s of %s = %s, %d, want %s, %d", what, brief(from), brief(got), e, brief(want), wantErr)
	}
	was := clone(from)
	spoil(got)
	if !same(from, was) {
		t.Errorf("%s of %s shares memory", what, brief(was))
	}
}

// slowPut puts an item in, by the words of the chapter.
func slowPut(list []api.Item, i api.Item) []api.Item {
	list = slices.DeleteFunc(slices.Clone(list), func(old api.Item) bool { return old.Num == i.Num })
	list = append(list, i)
	slices.SortFunc(list, func(a, b api.Item) int { return a.Num - b.Num })
	return list
}

// slowDrop drops an item, and tells whether there was one.
func slowDrop(list []api.Item, num int) ([]api.Item, bool) {
	kept := slices.DeleteFunc(slices.Clone(list), func(old api.Item) bool { return old.Num == num })
	return kept, len(kept) < len(list)
}

// finished returns the document with the items, or ErrTrail if it has no catalog.
func finished(d api.Doc, items []api.Item) (api.Doc, api.Errno) {
	d.Items = items
	root, _ := value.Get(d.Trailer, "Root")
	for _, i := range items {
		if int64(i.Num) == root.N && i.Gen == root.G && i.Obj.Kind == api.KDict {
			return d, api.OK
		}
	}
	return api.Doc{}, api.ErrTrail
}

// Promises 19.2 and 19.5.
func TestPut(t *testing.T) {
	for n, d := range sample.Docs() {
		news := append(oddItems(), item(1, sample.Dict("")), item(1, value.Int(1)), api.Item{Num: 1, Gen: 1, Obj: sample.Dict("")}, item(3, sample.Dict("A", value.Int(1))), item(3, value.Null()), item(9, sample.Nest(value.Int(1), api.MaxDepth-1)), item(api.MaxNum, sample.Dict("")), item(11, value.Array(value.Ref(11, 0))))
		if len(d.Items) > 1000 {
			news = news[10:]
		}
		for _, i := range news {
			want, wantErr := finished(d, slowPut(d.Items, i))
			was := clone(api.Doc{Items: []api.Item{i}})
			got, e := docs.Put(d, i)
			if back, ok := docs.Get(got, i.Num); e == api.OK && (!ok || !sameItem(back, i)) {
				t.Errorf("document %d: Get after Put(%s) = %s, %v", n, brief(i), brief(back), ok)
			}
			checkDoc(t, "Put", d, got, e, want, wantErr)
			if !sameItem(i, was.Items[0]) {
				t.Errorf("document %d: Put shares memory with the item %s", n, brief(i))
			}
		}
		for _, c := range badItems() {
			got, e := docs.Put(d, c.item)
			checkDoc(t, "Put", d, got, e, api.Doc{}, c.want)
		}
	}
	for _, f := range faults() {
		for _, i := range []api.Item{catalog(1), item(0, value.Int(1)), item(2, api.Object{Kind: 99}), item(5, value.Ref(1, 0))} {
			got, e := docs.Put(f.doc, i)
			checkDoc(t, "Put", f.doc, got, e, api.Doc{}, f.want)
		}
	}
}

// Promise 19.2.
func TestDrop(t *testing.T) {
	for _, d := range sample.Docs() {
		for _, num := range []int{math.MinInt, -1, 0, 1, 2, 3, 4, 5, 8, 13, 19, 20, 29, 8189, 8190, 8191, 8192, math.MaxInt} {
			items, found := slowDrop(d.Items, num)
			want, wantErr := api.Doc{}, api.ErrNone
			if found {
				want, wantErr = finished(d, items)
			}
			got, e := docs.Drop(d, num)
			checkDoc(t, "Drop", d, got, e, want, wantErr)
		}
	}
	for _, f := range faults() {
		for _, num := range []int{0, 1, 2, 99} {
			got, e := docs.Drop(f.doc, num)
			checkDoc(t, "Drop", f.doc, got, e, api.Doc{}, f.want)
		}
	}
}

// Promises 19.2 and 19.5.
func TestFreeAndAdd(t *testing.T) {
	for i, d := range sample.Docs() {
		last := d.Items[len(d.Items)-1].Num
		num, e := docs.Free(d)
		if last == api.MaxNum && (num != 0 || e != api.ErrFull) || last < api.MaxNum && (num != last+1 || e != api.OK) {
			t.Errorf("Free of document %d = %d, %d, with the last number %d", i, num, e, last)
		}
		o := value.Array(value.Ref(last, 0), sample.Dict("A", value.Int(1)))
		want, wantErr := api.Doc{Items: slowPut(d.Items, item(num, o)), Trailer: d.Trailer}, e
		if e != api.OK {
			want = api.Doc{}
		}
		got, added, e := docs.Add(d, o)
		if added != num {
			t.Errorf("Add to document %d = %d, want %d", i, added, num)
		}
		checkDoc(t, "Add", d, got, e, want, wantErr)
		if _, ok := docs.Get(d, added); ok {
			t.Errorf("the number %d was in use", added)
		}
		if !value.Same(o, value.Array(value.Ref(last, 0), sample.Dict("A", value.Int(1)))) {
			t.Errorf("Add to document %d shares memory with the object", i)
		}
		for _, c := range badItems() {
			if c.item.Num != 5 || c.item.Gen != 0 {
				continue
			}
			want := c.want
			if wantErr != api.OK {
				want = wantErr
			}
			got, added, e := docs.Add(d, c.item.Obj)
			checkDoc(t, "Add", d, got, e, api.Doc{}, want)
			if added != 0 {
				t.Errorf("Add with an error = %d", added)
			}
		}
	}
	for _, f := range faults() {
		if num, e := docs.Free(f.doc); num != 0 || e != f.want {
			t.Errorf("Free(%s) = %d, %d, want %d", brief(f.doc), num, e, f.want)
		}
		for _, o := range []api.Object{value.Int(1), {Kind: 99}, value.Ref(1, 0)} {
			got, num, e := docs.Add(f.doc, o)
			checkDoc(t, "Add", f.doc, got, e, api.Doc{}, f.want)
			if num != 0 {
				t.Errorf("Add with an error = %d", num)
			}
		}
	}
	if num, e := docs.Free(sample.Doc(api.MaxNum-1, catalog(api.MaxNum-1))); num != api.MaxNum || e != api.OK {
		t.Errorf("Free below the greatest number = %d, %d", num, e)
	}
}

// Promises 19.4 and 19.5.
func TestDiff(t *testing.T) {
	list := sample.Docs()
	for n, a := range list {
		for m, b := range list {
			if n > 4 && m > 4 && (n+m)%4 > 0 || n > 10 && m > 1 && m < 5 || m > 10 && n > 1 && n < 5 {
				continue
			}
			var want []api.Item
			var gone []int
			for _, i := range b.Items {
				if old, ok := docs.Get(a, i.Num); !ok || !sameItem(old, i) {
					want = append(want, i)
				}
			}
			for _, i := range a.Items {
				if _, ok := docs.Get(b, i.Num); !ok {
					gone = append(gone, i.Num)
				}
			}
			put, drop := docs.Diff(a, b)
			if !slices.EqualFunc(put, want, sameItem) || !slices.Equal(drop, gone) {
				t.Errorf("Diff(%d, %d) = %s, %s, want %s, %s", n, m, brief(put), brief(drop), brief(want), brief(gone))
			}
			back, e := docs.Apply(a, put, drop)
			wantDoc, wantErr := finished(a, b.Items)
			checkDoc(t, "Apply", a, back, e, wantDoc, wantErr)
			wasA, wasB := clone(a), clone(b)
			spoil(api.Doc{Items: put})
			if !same(a, wasA) || !same(b, wasB) {
				t.Errorf("Diff(%d, %d) shares memory", n, m)
			}
		}
	}
	for _, f := range faults() {
		for _, pair := range [][2]api.Doc{{f.doc, list[0]}, {list[0], f.doc}, {f.doc, f.doc}} {
			if put, drop := docs.Diff(pair[0], pair[1]); len(put) > 0 || len(drop) > 0 {
				t.Errorf("Diff with %s = %s, %s", brief(f.doc), brief(put), brief(drop))
			}
		}
	}
}

// slowApply changes a document, by the words of the chapter.
func slowApply(d api.Doc, l []api.Item, drop []int) (api.Doc, api.Errno) {
	items := d.Items
	for _, num := range drop {
		var found bool
		if items, found = slowDrop(items, num); !found {
			return api.Doc{}, api.ErrNone
		}
	}
	for _, i := range l {
		// A document that has the item beside a catalog has the item's error, if any.
		root := catalog(api.MaxNum)
		if i.Num == root.Num {
			root.Num--
		}
		pair := []api.Item{root, i}
		if i.Num < root.Num {
			pair = []api.Item{i, root}
		}
		if e := docs.Check(sample.Doc(root.Num, pair...)); e != api.OK {
			return api.Doc{}, e
		}
		items = slowPut(items, i)
	}
	return finished(d, items)
}

// Promise 19.4.
func TestApply(t *testing.T) {
	base := sample.Doc(3, item(1, value.Int(1)), item(2, value.Array(value.Int(2))), item(3, sample.Dict("A", value.Int(3))), item(7, sample.Streams()[3]))
	news := []api.Item{item(1, sample.Dict("")), item(2, value.Int(9)), item(3, value.Int(4)), {Num: 3, Gen: 1, Obj: sample.Dict("")}, item(3, sample.Dict("B", value.Ref(3, 0))), item(5, value.Null()), item(5, value.Ref(1, 0)), item(0, value.Int(1)), item(8, api.Object{Kind: 99}), item(6, typed(value.Name("XRef"))), item(api.MaxNum, value.Name("x"))}
	drops := [][]int{nil, {1}, {3}, {2, 1}, {1, 2, 3, 7}, {1, 1}, {4}, {3, 0}, {7, -1}, {8192}, {1, 8191}}
	for _, drop := range drops {
		for i := range len(news) + 1 {
			for j := range len(news) + 1 {
				var l []api.Item
				if i < len(news) {
					l = append(l, news[i])
				}
				if j < len(news) {
					l = append(l, news[j])
				}
				want, wantErr := slowApply(base, l, drop)
				was, wasDrop := clone(api.Doc{Items: l}), slices.Clone(drop)
				got, e := docs.Apply(base, l, drop)
				checkDoc(t, "Apply", base, got, e, want, wantErr)
				if !same(api.Doc{Items: l}, was) || !slices.Equal(drop, wasDrop) {
					t.Errorf("Apply(%s, %v) changed its arguments", brief(was.Items), wasDrop)
				}
			}
		}
	}
	for _, f := range faults() {
		for _, drop := range [][]int{nil, {99}, {1}} {
			got, e := docs.Apply(f.doc, []api.Item{catalog(1), item(0, value.Int(1))}, drop)
			checkDoc(t, "Apply", f.doc, got, e, api.Doc{}, f.want)
		}
	}
}

// Promise 19.4: the catalog may be away in between, but not at the end.
func TestApplyCatalog(t *testing.T) {
	d := sample.Doc(1, catalog(1), item(2, value.Int(2)))
	for i, c := range []struct {
		l    []api.Item
		drop []int
		want api.Errno
	}{
		{[]api.Item{item(1, sample.Dict("A", value.Int(1)))}, []int{1}, api.OK}, {[]api.Item{item(1, value.Int(1)), catalog(1)}, nil, api.OK}, {[]api.Item{{Num: 1, Gen: 4, Obj: sample.Dict("")}, catalog(1)}, []int{1, 2}, api.OK},
		{nil, []int{1}, api.ErrTrail}, {[]api.Item{item(1, value.Int(1))}, nil, api.ErrTrail}, {[]api.Item{catalog(1), item(1, value.Null())}, []int{1}, api.ErrTrail}, {[]api.Item{{Num: 1, Gen: 1, Obj: sample.Dict("")}}, []int{1}, api.ErrTrail}, {[]api.Item{catalog(2)}, []int{1, 2}, api.ErrTrail}, {nil, []int{2, 1}, api.ErrTrail},
		{nil, []int{1, 1}, api.ErrNone}, {[]api.Item{item(0, value.Int(1))}, []int{1}, api.ErrRange}, {[]api.Item{item(2, value.Ref(1, 0))}, []int{1}, api.ErrKind}, {nil, nil, api.OK},
	} {
		if got, e := docs.Apply(d, c.l, c.drop); e != c.want || (docs.Check(got) == api.OK) != (e == api.OK) {
			t.Errorf("Apply %d = %s, %d, want %d", i, brief(got), e, c.want)
		}
	}
}

// Promise 19.5: a document of all numbers, changed all over, at once.
func TestApplyAll(t *testing.T) {
	d := sample.Doc(4, catalog(4))
	var l []api.Item
	for num := api.MaxNum; num > 0; num-- {
		l = append(l, item(num, value.Int(int64(num))))
	}
	full, e := docs.Apply(d, append(l, catalog(4)), []int{4})
	if e != api.OK || len(full.Items) != api.MaxNum || docs.Check(full) != api.OK {
		t.Fatalf("a full document: %d items, %d", len(full.Items), e)
	}
	put, drop := docs.Diff(full, d)
	if len(put) != 0 || len(drop) != api.MaxNum-1 {
		t.Errorf("Diff has %d items and %d numbers", len(put), len(drop))
	}
	if got, e := docs.Apply(full, put, drop); e != api.OK || !same(got, d) {
		t.Errorf("back again: %s, %d", brief(got), e)
	}
	for range 3 * api.MaxNum {
		l = append(l, item(4, value.Int(1)))
	}
	if got, e := docs.Apply(full, append(l, catalog(4)), nil); e != api.OK || !same(got, full) {
		t.Errorf("the same again: %s, %d", brief(got), e)
	}
}

// Aliasing: what is found in a document is memory of its own.
func TestFoundMemory(t *testing.T) {
	d := sample.Doc(1, item(1, sample.Dict("A B", value.Array(value.Int(1), value.Array(value.Int(2))), value.Ref(2, 0))), item(2, sample.Dict("C", value.Array(value.Int(3)))))
	was := clone(d)
	got, _ := docs.Get(d, 1)
	spoilObject(got.Obj)
	for _, o := range []api.Object{docs.Follow(d, value.Ref(1, 0)), docs.Follow(d, d.Items[0].Obj), docs.Path(d, value.Ref(2, 0)), docs.Path(d, d.Items[0].Obj), docs.Path(d, value.Ref(1, 0), "A"), docs.Path(d, d.Trailer, "Root", "B"), docs.Path(d, d.Items[0].Obj, "B", "C"), docs.Trailer(d.Trailer)} {
		if len(o.Kids) == 0 {
			t.Errorf("nothing found")
		}
		spoilObject(o)
	}
	if !same(d, was) {
		t.Errorf("the document was changed: %s", brief(d))
	}
}

// addEach adds objects one after the other.
func addEach(d api.Doc, l []api.Object) (api.Doc, api.Errno) {
	e := docs.Check(d)
	for _, o := range l {
		if e == api.OK {
			d, _, e = docs.Add(d, o)
		}
	}
	if e != api.OK {
		return api.Doc{}, e
	}
	return d, api.OK
}

// Extend does what Add does, for many objects.
func TestExtend(t *testing.T) {
	deep := sample.Nest(value.Int(1), api.MaxDepth)
	lists := [][]api.Object{nil, {value.Int(1)}, {value.Null(), sample.Dict("A", value.Ref(4, 0)), value.Array(value.Array())}, {value.Int(1), {Kind: 99}, deep}, {deep, {Kind: 99}}, {value.Ref(1, 0)}, {typed(value.Name("XRef"))}, {value.Int(1), value.Ref(0, 0), value.Int(2)}}
	list := append(sample.Docs(), sample.Doc(api.MaxNum-1, catalog(api.MaxNum-1)), sample.Doc(api.MaxNum-2, catalog(api.MaxNum-2)))
	for _, f := range faults() {
		list = append(list, f.doc)
	}
	for _, d := range list {
		for _, l := range lists {
			want, wantErr := addEach(d, l)
			was := clone(api.Doc{Trailer: value.Array(l...)})
			got, e := docs.Extend(d, l...)
			checkDoc(t, "Extend", d, got, e, want, wantErr)
			if !same(api.Doc{Trailer: value.Array(l...)}, was) {
				t.Errorf("Extend shares memory with the objects")
			}
		}
	}
}
