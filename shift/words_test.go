package shift_test

import (
	"slices"
	"testing"

	"foliant/api"
	"foliant/docs"
	"foliant/graph"
	"foliant/sample"
	"foliant/shift"
	"foliant/value"
)

// pick chooses a number from 0 to below, not included.
func pick(seed *uint32, below int) int {
	*seed = *seed*1664525 + 1013904223
	return int(*seed>>8) % below
}

// meant returns the index of the item that a reference refers to, or -1.
func meant(d api.Doc, o api.Object) int {
	return slices.IndexFunc(d.Items, func(i api.Item) bool { return int64(i.Num) == o.N && i.Gen == o.G })
}

// visit adds the numbers of the items that a depth-first traversal of o visits, by the words of the chapter.
func visit(d api.Doc, o api.Object, order []int) []int {
	if o.Kind == api.KRef {
		at := meant(d, o)
		if at < 0 || slices.Contains(order, d.Items[at].Num) {
			return order
		}
		return visit(d, d.Items[at].Obj, append(order, d.Items[at].Num))
	}
	for _, kid := range o.Kids {
		order = visit(d, kid, order)
	}
	return order
}

// renumber replaces the references of an object of d by new ones, by the words of the chapter.
func renumber(d api.Doc, o api.Object, next map[int]api.Object) api.Object {
	o = value.Clone(o)
	if o.Kind == api.KRef {
		if at := meant(d, o); at >= 0 {
			return next[d.Items[at].Num]
		}
		return value.Null()
	}
	for at := len(o.Kids) - 1; at >= 0; at-- {
		o.Kids[at] = renumber(d, o.Kids[at], next)
		if len(o.Keys) > 0 && o.Kids[at].Kind == api.KNull {
			o.Keys, o.Kids = slices.Delete(o.Keys, at, at+1), slices.Delete(o.Kids, at, at+1)
		}
	}
	return o
}

// renumberDoc moves all items of a document to new numbers.
func renumberDoc(d api.Doc, next map[int]api.Object) api.Doc {
	moved := api.Doc{Trailer: renumber(d, d.Trailer, next)}
	for num := range api.MaxNum + 1 {
		for _, i := range d.Items {
			if to := next[i.Num]; to.N == int64(num) {
				moved.Items = append(moved.Items, api.Item{Num: num, Gen: to.G, Obj: renumber(d, i.Obj, next)})
			}
		}
	}
	return moved
}

// compact renumbers a document by the words of the chapter.
func compact(d api.Doc) api.Doc {
	order := visit(d, d.Trailer, nil)
	for _, i := range d.Items {
		if !slices.Contains(order, i.Num) {
			order = append(order, i.Num)
		}
	}
	next := map[int]api.Object{}
	for at, num := range order {
		next[num] = ref(at + 1)
	}
	return renumberDoc(d, next)
}

// mapped does what Map does, by the words of the chapter.
func mapped(d api.Doc, from, to []int) (api.Doc, api.Errno) {
	wrong := len(from) != len(to)
	for _, list := range [][]int{from, to} {
		for at, num := range list {
			wrong = wrong || num < 1 || num > api.MaxNum || slices.Contains(list[:at], num)
		}
	}
	if wrong {
		return api.Doc{}, api.ErrArg
	}
	next := map[int]api.Object{}
	for _, i := range d.Items {
		next[i.Num] = sample.Ref(i.Num, i.Gen)
	}
	for _, num := range from {
		if next[num].N == 0 {
			return api.Doc{}, api.ErrNone
		}
	}
	for _, num := range to {
		if next[num].N != 0 && !slices.Contains(from, num) {
			return api.Doc{}, api.ErrTwice
		}
	}
	for at, num := range from {
		next[num] = ref(to[at])
	}
	return renumberDoc(d, next), api.OK
}

// alike compares what two objects mean in their documents, whose items have met as the pairs tell.
func alike(a, b api.Doc, x, y api.Object, pairs map[int]int) bool {
	at, to := -1, -1
	if x.Kind == api.KRef {
		at = meant(a, x)
	}
	if y.Kind == api.KRef {
		to = meant(b, y)
	}
	switch {
	case at < 0 && to < 0 && (x.Kind == api.KRef || y.Kind == api.KRef):
		return (x.Kind == api.KRef || x.Kind == api.KNull) && (y.Kind == api.KRef || y.Kind == api.KNull)
	case at < 0 && to < 0:
		x, y = solid(a, x), solid(b, y)
		same := x.Kind == y.Kind && x.N == y.N && x.S == y.S && slices.Equal(x.Keys, y.Keys) && len(x.Kids) == len(y.Kids)
		for i := 0; same && i < len(x.Kids); i++ {
			same = alike(a, b, x.Kids[i], y.Kids[i], pairs)
		}
		return same
	case at < 0 || to < 0:
		return false
	}
	if met, ok := pairs[at]; ok {
		return met == to
	}
	for _, met := range pairs {
		if met == to {
			return false
		}
	}
	pairs[at] = to
	return alike(a, b, a.Items[at].Obj, b.Items[to].Obj, pairs)
}

// solid returns a dictionary or stream without the entries that are dangling references.
func solid(d api.Doc, o api.Object) api.Object {
	kept := o
	kept.Keys, kept.Kids = nil, nil
	for i, kid := range o.Kids {
		if len(o.Keys) > 0 && kid.Kind == api.KRef && meant(d, kid) < 0 {
			continue
		}
		if len(o.Keys) > 0 {
			kept.Keys = append(kept.Keys, o.Keys[i])
		}
		kept.Kids = append(kept.Kids, kid)
	}
	return kept
}

// numbers returns the numbers of the items.
func numbers(d api.Doc) []int {
	var list []int
	for _, i := range d.Items {
		list = append(list, i.Num)
	}
	return list
}

// Promises 30.2, 30.4, 30.5 and 30.7, by the words of the chapter.
func TestCompactWords(t *testing.T) {
	list := sample.Webs()
	for _, d := range sample.Docs() {
		if len(d.Items) < 100 {
			list = append(list, d)
		}
	}
	for n, d := range list {
		want := compact(d)
		compacts(t, d, want)
		compacts(t, want, want)
		if e := docs.Check(want); e != api.OK || !shift.Alike(want, d) || !shift.Alike(d, want) {
			t.Errorf("Compact of %s is not Alike, or has the error %d", brief(d), e)
		}
		if l := graph.Dangling(want); len(l) > 0 {
			t.Errorf("Compact of %s has the dangling references %v", brief(d), l)
		}
		for _, other := range []api.Doc{list[(n+1)%len(list)], list[n*7%len(list)], list[n*11%len(list)]} {
			if got, want := shift.Alike(d, other), alike(d, other, d.Trailer, other.Trailer, map[int]int{}); got != want {
				t.Errorf("Alike(%s, %s) = %v", brief(d), brief(other), got)
			}
		}
	}
}

// Promises 30.1, 30.5 and 30.7, by the words of the chapter.
func TestMapWords(t *testing.T) {
	seed := uint32(30)
	seen := map[api.Errno]int{}
	for _, d := range sample.Webs() {
		for range 20 {
			var from, to []int
			targets := append(numbers(d), 1, 2, 3, 4, 17, 18, 19, 20, 21, 22, 23, 24, 25, 26, 27, 28, 29, 30, 100, api.MaxNum)
			slices.Sort(targets)
			targets = slices.Compact(targets)
			for _, i := range d.Items {
				if pick(&seed, 3) > 0 {
					at := pick(&seed, len(targets))
					from, to = append(from, i.Num), append(to, targets[at])
					targets = slices.Delete(targets, at, at+1)
				}
			}
			if pick(&seed, 4) == 0 {
				from, to = append(from, pick(&seed, 20)), append(to, pick(&seed, 30))
			}
			want, wantErr := mapped(d, from, to)
			seen[wantErr]++
			maps(t, d, from, to, want, wantErr)
			if wantErr != api.OK {
				continue
			}
			back, e := shift.Map(want, to, from)
			if e != api.OK || docs.Check(want) != api.OK || !shift.Alike(back, d) || !shift.Alike(want, d) || len(graph.Dangling(want)) > 0 {
				t.Errorf("Map of %s from %v to %v and back = %s, %d", brief(d), from, to, brief(back), e)
			}
		}
	}
	for _, e := range []api.Errno{api.OK, api.ErrArg, api.ErrNone, api.ErrTwice} {
		if seen[e] < 20 {
			t.Errorf("only %d answers with the error %d", seen[e], e)
		}
	}
}

// Promises 30.3 and 30.6, by the words of the chapter.
func TestImportWords(t *testing.T) {
	seed := uint32(31)
	list := sample.Webs()
	for _, other := range list {
		d := list[pick(&seed, len(list))]
		if pick(&seed, 9) == 0 {
			d = other
		}
		o := value.Array(sample.Ref(1+pick(&seed, 15), 0), sample.Dict("A", sample.Ref(1+pick(&seed, 15), 1)), other.Items[pick(&seed, len(other.Items))].Obj)
		if o.Kids[2].Kind == api.KStream || pick(&seed, 3) == 0 {
			o = o.Kids[2]
		}
		order, next := visit(other, o, nil), map[int]api.Object{}
		last := d.Items[len(d.Items)-1].Num
		for at, num := range order {
			next[num] = ref(last + at + 1)
		}
		want := api.Doc{Items: slices.Clone(d.Items), Trailer: d.Trailer}
		for _, num := range order {
			i, _ := docs.Get(other, num)
			want.Items = append(want.Items, item(int(next[num].N), renumber(other, i.Obj, next)))
		}
		wantObj := renumber(other, o, next)
		imports(t, d, other, o, want, wantObj, api.OK)
		got, gotObj, _ := shift.Import(d, other, o)
		if docs.Check(got) != api.OK || !alike(got, other, gotObj, o, map[int]int{}) || !docs.Same(api.Doc{Items: got.Items[:len(d.Items)], Trailer: got.Trailer}, d) {
			t.Errorf("Import of %s from %s means %s in %s", brief(o), brief(other), brief(gotObj), brief(got))
		}
	}
}
