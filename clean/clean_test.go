package clean_test

import (
	"fmt"
	"slices"
	"strconv"
	"strings"
	"testing"
	"time"

	"foliant/api"
	"foliant/clean"
	"foliant/docs"
	"foliant/graph"
	"foliant/sample"
	"foliant/value"
)

// brief shows the beginning of anything.
func brief(x any) string { return fmt.Sprintf("%.400s", fmt.Sprintf("%q", fmt.Sprint(x))) }

// item returns an item of generation 0.
func item(num int, o api.Object) api.Item { return api.Item{Num: num, Obj: o} }

// ref returns a reference of generation 0.
func ref(num int) api.Object { return sample.Ref(num, 0) }

// streamOf returns a stream with the entries of a dictionary.
func streamOf(dict api.Object) api.Object {
	dict.Kind, dict.S = api.KStream, "AA"
	return dict
}

// clone returns an equal document that shares no memory with d.
func clone(d api.Doc) api.Doc {
	d.Trailer = value.Clone(d.Trailer)
	d.Items = slices.Clone(d.Items)
	for i := range d.Items {
		d.Items[i].Obj = value.Clone(d.Items[i].Obj)
	}
	return d
}

// spoil changes all that an object has in memory of its own.
func spoil(o api.Object) {
	for i := range o.Keys {
		o.Keys[i] += "x"
	}
	for i := range o.Kids {
		spoil(o.Kids[i])
		o.Kids[i].N++
	}
}

// strips checks an answer of Strip.
func strips(t *testing.T, o api.Object, keys string, want api.Object) {
	t.Helper()
	list := strings.Fields(keys)
	was, wasList := value.Clone(o), slices.Clone(list)
	got := clean.Strip(o, list)
	if !value.Same(got, want) {
		t.Errorf("Strip(%s, %s) = %s, want %s", brief(o), keys, brief(got), brief(want))
	}
	spoil(got)
	if !value.Same(o, was) || !slices.Equal(list, wasList) {
		t.Errorf("Strip has changed its arguments, or shares memory with them: %s", brief(was))
	}
}

// cleans checks what cleaning a document leaves and removes.
func cleans(t *testing.T, d api.Doc, keys []string, want api.Doc, left ...int) {
	t.Helper()
	was, wasKeys := clone(d), slices.Clone(keys)
	got, e := clean.Doc(d, keys)
	if !docs.Same(got, want) || e != api.OK {
		t.Errorf("Doc(%s, %v) = %s, %d, want %s", brief(d), keys, brief(got), e, brief(want))
	}
	if list := clean.Left(d, keys); !slices.Equal(list, left) {
		t.Errorf("Left(%s, %v) = %s, want %s", brief(d), keys, brief(list), brief(left))
	}
	if again, e := clean.Doc(got, keys); !docs.Same(again, got) || e != api.OK || len(clean.Left(got, keys)) > 0 {
		t.Errorf("Doc(Doc(%s, %v)) = %s, %d", brief(d), keys, brief(again), e)
	}
	spoil(got.Trailer)
	for i := range got.Items {
		spoil(got.Items[i].Obj)
		got.Items[i].Num++
	}
	if !docs.Same(d, was) || !slices.Equal(keys, wasKeys) {
		t.Errorf("Doc has changed its arguments, or shares memory with them: %s", brief(was))
	}
}

// Promise 31.1.
func TestUsual(t *testing.T) {
	want := []string{"AA", "JS", "JavaScript", "Launch", "Metadata", "OpenAction", "PieceInfo"}
	for range 2 {
		got := clean.Usual()
		if !slices.Equal(got, want) {
			t.Errorf("Usual = %v", got)
		}
		got[0] = "BB"
	}
}

// Promise 31.1.
func TestStrip(t *testing.T) {
	one, two := value.Int(1), value.Int(2)
	deep := sample.Dict("A B", sample.Dict("B C", one, two), value.Array(value.Array(sample.Dict("A C", one, ref(3))), sample.Dict("A", one)))
	for _, c := range []struct {
		o    api.Object
		keys string
		want api.Object
	}{
		{deep, "", deep}, {deep, "D a AB", deep},
		{deep, "A", sample.Dict("B", value.Array(value.Array(sample.Dict("C", ref(3))), sample.Dict("")))},
		{deep, "C C", sample.Dict("A B", sample.Dict("B", one), value.Array(value.Array(sample.Dict("A", one)), sample.Dict("A", one)))},
		{deep, "B", sample.Dict("A", sample.Dict("C", two))},
		{deep, "B A", sample.Dict("")},
		{streamOf(sample.Dict("A Type", one, deep)), "A", streamOf(sample.Dict("Type", sample.Dict("B", value.Array(value.Array(sample.Dict("C", ref(3))), sample.Dict("")))))},
		{streamOf(sample.Dict("Filter Type", value.Name("A"), value.Name("Root"))), "Type Filter Root Length", streamOf(sample.Dict(""))},
		{sample.Dict("ID Info Length Root", one, one, one, one), "Root Info ID Length", sample.Dict("")},
		{value.Array(value.Name("A"), value.String("A"), value.Null(), one, ref(1)), "A", value.Array(value.Name("A"), value.String("A"), value.Null(), one, ref(1))},
		{value.Name("A"), "A", value.Name("A")}, {value.Null(), "A", value.Null()}, {ref(7), "A", ref(7)},
		{sample.Nest(sample.Dict("A", one), api.MaxDepth-2), "A", sample.Nest(sample.Dict(""), api.MaxDepth-2)},
		{sample.Nest(sample.Dict("A", one), 4), "K", value.Array(sample.Dict(""))},
	} {
		strips(t, c.o, c.keys, c.want)
	}
}

// Promise 31.1: an object that is not valid stays as it is.
func TestStripInvalid(t *testing.T) {
	for _, b := range sample.BadObjects() {
		strips(t, b.Is, "A K", b.Is)
		o := sample.Dict("A B", value.Int(1), b.Is)
		strips(t, o, "A", o)
		strips(t, o, "B", o)
	}
}

// Promise 31.2, by the examples of the chapter and of the document.
func TestExamples(t *testing.T) {
	d := sample.Doc(1, item(1, sample.Dict("OpenAction Type", ref(2), value.Name("Catalog"))), item(2, sample.Dict("S", value.Name("GoTo"))))
	cleans(t, d, clean.Usual(), sample.Doc(1, item(1, sample.Dict("Type", value.Name("Catalog")))), 2)
	d = sample.Doc(1, item(1, sample.Dict("A B", ref(2), ref(3))), item(2, value.Int(7)), item(3, value.Int(8)))
	cleans(t, d, []string{"A"}, sample.Doc(1, item(1, sample.Dict("B", ref(3))), item(3, value.Int(8))), 2)
}

// Promises 31.2 and 31.3: numbers, generations and dangling references stay, and items go whose users go.
func TestDoc(t *testing.T) {
	one := value.Int(1)
	d := api.Doc{Items: []api.Item{
		item(1, value.Array(ref(2))), item(2, value.Array(ref(1))),
		{Num: 5, Gen: 3, Obj: streamOf(sample.Dict("A B", ref(9), sample.Dict("A B", ref(9), ref(7))))},
		item(7, value.Array(sample.Dict("A", ref(8)), ref(99), sample.Ref(5, 4))),
		item(8, value.String("A")), item(9, value.Array(ref(8))),
		{Num: 11, Gen: api.MaxGen, Obj: sample.Dict("A Info Root", sample.Ref(12, 1), one, sample.Ref(5, 3))},
		{Num: 12, Gen: 1, Obj: value.Null()},
	}}
	root := sample.Ref(11, api.MaxGen)
	id := value.Array(sample.Dict("A", ref(9)))
	d.Trailer = sample.Dict("ID Info Root", id, ref(2), root)

	all := slices.Clone(d.Items)
	cleans(t, d, nil, d)
	cleans(t, d, []string{"a", "", "Length", "Kids"}, d)
	cleans(t, d, []string{"ID"}, api.Doc{Items: all, Trailer: sample.Dict("Info Root", ref(2), root)})
	seven := item(7, value.Array(sample.Dict(""), ref(99), sample.Ref(5, 4)))
	five := api.Item{Num: 5, Gen: 3, Obj: streamOf(sample.Dict("B", sample.Dict("B", ref(7))))}
	eleven := api.Item{Num: 11, Gen: api.MaxGen, Obj: sample.Dict("Info Root", one, sample.Ref(5, 3))}
	cleans(t, d, []string{"A", "A"}, api.Doc{Items: []api.Item{all[0], all[1], five, seven, all[4], all[5], eleven}, Trailer: d.Trailer}, 12)
	cleans(t, d, []string{"ID", "A"}, api.Doc{Items: []api.Item{all[0], all[1], five, seven, eleven}, Trailer: sample.Dict("Info Root", ref(2), root)}, 8, 9, 12)
	eleven.Obj = sample.Dict("A Root", sample.Ref(12, 1), sample.Ref(5, 3))
	cleans(t, d, []string{"Info"}, api.Doc{Items: []api.Item{all[2], all[3], all[4], all[5], eleven, all[7]}, Trailer: sample.Dict("ID Root", id, root)}, 1, 2)
	eleven.Obj = sample.Dict("A Info", sample.Ref(12, 1), one)
	cleans(t, d, []string{"Root"}, api.Doc{Items: []api.Item{all[0], all[1], all[4], all[5], eleven, all[7]}, Trailer: d.Trailer}, 5, 7)
	eleven.Obj = sample.Dict("")
	cleans(t, d, []string{"Root", "Info", "B", "ID", "A"}, api.Doc{Items: []api.Item{eleven}, Trailer: sample.Dict("Root", root)}, 1, 2, 5, 7, 8, 9, 12)
}

// Promise 31.2: an invalid document.
func TestDocInvalid(t *testing.T) {
	for _, b := range sample.BadDocs() {
		for _, keys := range [][]string{nil, {"A"}, clean.Usual(), {"Root"}, {"ID", "Info", "Size", "Type"}} {
			if got, e := clean.Doc(b.Is, keys); e != b.Err || !docs.Same(got, api.Doc{}) {
				t.Errorf("Doc(%s, %v) = %s, %d, want %d", brief(b.Is), keys, brief(got), e, b.Err)
			}
			if got := clean.Left(b.Is, keys); len(got) > 0 {
				t.Errorf("Left(%s, %v) = %v", brief(b.Is), keys, got)
			}
		}
	}
}

// keysIn adds the keys in an object.
func keysIn(o api.Object, keys []string) []string {
	keys = append(keys, o.Keys...)
	for _, kid := range o.Kids {
		keys = keysIn(kid, keys)
	}
	return keys
}

// strip strips an object, by the words of the chapter.
func strip(o api.Object, keys []string) api.Object {
	for _, key := range keys {
		o = value.Drop(o, key)
	}
	o = value.Clone(o)
	for i := range o.Kids {
		o.Kids[i] = strip(o.Kids[i], keys)
	}
	return o
}

// Promises 31.1 to 31.3 and P4, by the words of the chapter.
func TestWords(t *testing.T) {
	seed := 31
	for n, d := range sample.Webs() {
		var all []string
		for _, i := range d.Items {
			all = keysIn(i.Obj, all)
		}
		all = append(all, "ID", "Info", "Root", "Length")
		for range 6 {
			var keys []string
			for range n % 5 {
				seed = (seed*1103515 + 12345) % (1 << 31)
				keys = append(keys, all[seed/64%len(all)])
			}
			want := clone(d)
			for i, old := range d.Items {
				want.Items[i].Obj = strip(old.Obj, keys)
				strips(t, old.Obj, strings.Join(slices.DeleteFunc(slices.Clone(keys), odd), " "), strip(old.Obj, slices.DeleteFunc(slices.Clone(keys), odd)))
			}
			for _, key := range keys {
				if key == "ID" || key == "Info" {
					want.Trailer = value.Drop(want.Trailer, key)
				}
			}
			kept, gone := graph.Reach(want), graph.Lost(want)
			want.Items = slices.DeleteFunc(want.Items, func(i api.Item) bool { return !slices.Contains(kept, i.Num) })
			cleans(t, d, keys, want, gone...)
			for _, num := range graph.Dangling(want) {
				if !slices.Contains(graph.Dangling(d), num) {
					t.Errorf("%d has become dangling", num)
				}
			}
			if e := docs.Check(want); e != api.OK {
				t.Errorf("the error %d", e)
			}
		}
	}
}

// odd reports whether a key can't stand in a text of keys.
func odd(key string) bool { return len(strings.Fields(key)) != 1 || strings.Fields(key)[0] != key }

// P5: many keys and items.
func TestTime(t *testing.T) {
	start := time.Now()
	var keys []string
	for i := range 200000 {
		keys = append(keys, strconv.Itoa(i))
	}
	d := sample.Chain(api.MaxNum-1, api.MaxDepth-2)
	cleans(t, d, keys, d)
	var gone []int
	for num := 2; num < api.MaxNum; num++ {
		gone = append(gone, num)
	}
	cleans(t, d, append(keys, "Next"), sample.Doc(1, item(1, sample.Dict(""))), gone...)
	if spent := time.Since(start); spent > 20*time.Second {
		t.Errorf("%v were spent", spent)
	}
}
