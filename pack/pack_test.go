package pack_test

import (
	"fmt"
	"math"
	"slices"
	"strings"
	"testing"

	"foliant/api"
	"foliant/body"
	"foliant/cross"
	"foliant/docs"
	"foliant/filter"
	"foliant/head"
	"foliant/load"
	"foliant/pack"
	"foliant/packed"
	"foliant/sample"
	"foliant/value"
)

// brief shows the beginning of anything.
func brief(x any) string { return fmt.Sprintf("%.400s", fmt.Sprintf("%q", fmt.Sprint(x))) }

// item returns an item of generation 0.
func item(num int, o api.Object) api.Item { return api.Item{Num: num, Obj: o} }

// streamOf returns a stream without entries.
func streamOf(data string) api.Object { return api.Object{Kind: api.KStream, S: data} }

// crowded returns a stream that has no room for its length among its entries.
func crowded() api.Object {
	o := sample.Broad(api.MaxKids)
	o.Kind = api.KStream
	return o
}

// must returns v, which comes without an error.
func must[T any](v T, e api.Errno) T {
	if e != api.OK {
		panic(fmt.Sprint("error ", e))
	}
	return v
}

// groups returns the groups of a document by the words of the chapter.
func groups(d api.Doc) [][]api.Item {
	var list [][]api.Item
	for _, i := range d.Items {
		if i.Gen > 0 || i.Obj.Kind == api.KStream {
			continue
		}
		if n := len(list); n == 0 || len(list[n-1]) == api.MaxPack {
			list = append(list, nil)
		}
		list[len(list)-1] = append(list[len(list)-1], i)
	}
	return list
}

// file writes a document by the words of the chapter.
func file(d api.Doc, level int) string {
	s := must(head.Text(5))
	slots := map[int]api.Slot{0: {B: api.MaxGen}}
	put := func(i api.Item) {
		slots[i.Num] = api.Slot{Num: i.Num, Kind: api.SlotPlain, A: len(s), B: i.Gen}
		s += must(body.Text(i))
	}
	for _, i := range d.Items {
		if !packed.May(i) {
			put(i)
		}
	}
	next := d.Items[len(d.Items)-1].Num + 1
	for _, g := range groups(d) {
		o := must(packed.Make(g))
		data := must(filter.Decode(o))
		switch level {
		case 0:
			o = must(filter.Plain(o, data))
		case 2:
			o = must(filter.Encode(o, []string{"A85", "Fl"}, nil, data))
		}
		put(item(next, o))
		for place, i := range g {
			slots[i.Num] = api.Slot{Num: i.Num, Kind: api.SlotPacked, A: next, B: place}
		}
		next++
	}
	start := len(s)
	slots[next] = api.Slot{Num: next, Kind: api.SlotPlain, A: start}
	x := api.Section{Trailer: d.Trailer, Prev: -1, Own: next}
	for num := range next + 1 {
		if slot, ok := slots[num]; ok {
			x.Slots = append(x.Slots, slot)
		}
	}
	return s + must(body.Text(must(cross.Make(x)))) + head.Tail(start)
}

// writes checks the files of a document, and that they are read as the document.
func writes(t *testing.T, d api.Doc) {
	t.Helper()
	checkGroups(t, d)
	for level := range 3 {
		want := file(d, level)
		s, e := pack.File(d, level)
		if s != want || e != api.OK {
			t.Errorf("File(%s, %d) = %s, %d, want %s", brief(d), level, brief(s), e, brief(want))
		}
		got, r, e := load.Open(s)
		if !docs.Same(got, d) || r.Repaired || r.Sections != 1 || e != api.OK {
			t.Errorf("Open(File(%s, %d)) = %s, %v, %d", brief(d), level, brief(got), r, e)
		}
	}
}

// checkGroups checks the groups of a document.
func checkGroups(t *testing.T, d api.Doc) {
	t.Helper()
	var want [][]int
	for _, g := range groups(d) {
		want = append(want, nil)
		for _, i := range g {
			want[len(want)-1] = append(want[len(want)-1], i.Num)
		}
	}
	got := pack.Groups(d)
	if !slices.EqualFunc(got, want, slices.Equal[[]int]) {
		t.Errorf("Groups(%s) = %s, want %s", brief(d), brief(got), brief(want))
	}
	seen := map[int]bool{}
	for _, nums := range got {
		for _, num := range nums {
			if seen[num] {
				t.Errorf("Groups(%s) has %d twice", brief(d), num)
			}
			seen[num] = true
		}
	}
}

// refuses checks that a document has no file of any of some levels.
func refuses(t *testing.T, want api.Errno, d api.Doc, levels ...int) {
	t.Helper()
	for _, level := range levels {
		if s, e := pack.File(d, level); s != "" || e != want {
			t.Errorf("File(%s, %d) = %s, %d, want %d", brief(d), level, brief(s), e, want)
		}
	}
}

// full returns a document of so many dictionaries with numbers from first on.
func full(first, count int) api.Doc {
	d := sample.Doc(first)
	for i := range count {
		d.Items = append(d.Items, item(first+i, sample.Dict("A", value.Int(int64(i)))))
	}
	return d
}

// Promises 27.1 and 27.2, by the examples of the chapter and of the document.
func TestExamples(t *testing.T) {
	d := full(1, api.MaxPack+1)
	if g := pack.Groups(d); len(g) != 2 || len(g[0]) != api.MaxPack || !slices.Equal(g[1], []int{api.MaxPack + 1}) {
		t.Errorf("Groups = %v", g)
	}
	writes(t, d)
	d = full(1, 4)
	s, e := pack.File(d, 1)
	slots, _ := load.Slots(s)
	want := []api.Slot{{B: api.MaxGen}, {Num: 1, Kind: api.SlotPacked, A: 5}, {Num: 2, Kind: api.SlotPacked, A: 5, B: 1}, {Num: 3, Kind: api.SlotPacked, A: 5, B: 2}, {Num: 4, Kind: api.SlotPacked, A: 5, B: 3}, {Num: 5, Kind: api.SlotPlain, A: 15}}
	if len(slots) != 7 || !slices.Equal(slots[:6], want) || slots[6].Num != 6 || e != api.OK {
		t.Errorf("the entries are %v", slots)
	}
	if !strings.HasPrefix(s, "%PDF-1.5\n%\xe2\xe3\xcf\xd3\n5 0 obj\n<</Filter/FlateDecode/First ") {
		t.Errorf("File = %s", brief(s))
	}
}

// Promise 27.1: what the levels make of an object stream.
func TestLevels(t *testing.T) {
	d := full(1, 3)
	const data = "1 0\n2 9\n3 18\n<</A 0>>\n<</A 1>>\n<</A 2>>\n"
	for level, want := range [][]string{nil, {"FlateDecode"}, {"ASCII85Decode", "FlateDecode"}} {
		s := must(pack.File(d, level))
		i, _, e := body.Read(s, 15, -1)
		names, _, err := filter.Of(i.Obj)
		if i.Num != 4 || i.Gen != 0 || e != api.OK || !slices.Equal(names, want) || err != api.OK {
			t.Errorf("level %d has the stream %s, %d", level, brief(i), e)
		}
		if plain, e := filter.Decode(i.Obj); plain != data || e != api.OK {
			t.Errorf("level %d has the data %q, %d", level, plain, e)
		}
		if (level == 0) != (i.Obj.S == data) {
			t.Errorf("level %d has the raw bytes %q", level, i.Obj.S)
		}
	}
}

// Promises 27.1 and 27.2, and P1: documents with objects that can be packed beside those that can't.
func TestFile(t *testing.T) {
	for i, d := range sample.Docs() {
		last := d.Items[len(d.Items)-1].Num
		switch {
		case last+len(groups(d))+1 > api.MaxNum:
			checkGroups(t, d)
			refuses(t, api.ErrFull, d, 0, 1, 2)
		case i == 2:
			// Its objects are too many for a file, and the strings alone too long for their object stream.
			checkGroups(t, d)
			refuses(t, api.ErrLong, d, 0, 1, 2)
		default:
			writes(t, d)
		}
	}
	for _, count := range []int{1, 99, 100, 101, 200, 201} {
		writes(t, full(7, count))
	}
	d := full(3, 250)
	for i := range d.Items {
		d.Items[i].Num += i / 50 * i
		switch {
		case i%3 == 1:
			d.Items[i].Gen = i
		case i%7 == 1:
			d.Items[i].Obj = streamOf("endstream startxref")
		}
	}
	d.Trailer = sample.Dict("ID Info Root", value.Array(value.String("startxref 1")), value.Ref(77, 0), value.Ref(3, 0))
	writes(t, d)
	d.Items[0].Gen = 5
	d.Trailer = sample.Dict("Root", value.Ref(3, 5))
	writes(t, d)
	writes(t, sample.Doc(1, item(1, sample.Dict("")), item(2, streamOf("x"))))
	writes(t, api.Doc{Items: []api.Item{{Num: 1, Gen: 1, Obj: sample.Dict("")}}, Trailer: sample.Dict("Root", value.Ref(1, 1))})
}

// Promise 27.1: there must be room for the new numbers.
func TestRoom(t *testing.T) {
	for count := range 3 {
		objects := count * api.MaxPack
		last := api.MaxNum - count - 1
		if count == 0 {
			loose := api.Item{Num: last, Gen: 1, Obj: sample.Dict("")}
			writes(t, api.Doc{Items: []api.Item{loose}, Trailer: sample.Dict("Root", value.Ref(last, 1))})
			loose.Num++
			refuses(t, api.ErrFull, api.Doc{Items: []api.Item{loose}, Trailer: sample.Dict("Root", value.Ref(last+1, 1))}, 0, 1, 2)
			continue
		}
		writes(t, full(last-objects+1, objects))
		refuses(t, api.ErrFull, full(last-objects+2, objects), 0, 1, 2)
		refuses(t, api.ErrFull, full(last-objects, objects+1), 0, 1, 2)
	}
}

// Promise 27.1: the errors, in their order.
func TestErrors(t *testing.T) {
	root := item(1, sample.Dict(""))
	long := item(2, streamOf(strings.Repeat("s", api.MaxData)))
	levels := []int{0, 1, 2, -1, 3, math.MinInt, math.MaxInt}
	for _, d := range []api.Doc{{}, sample.Doc(1), sample.Doc(2, root, long), sample.Doc(1, root, root), sample.Doc(1, root, item(2, value.Ref(1, 0))), sample.Doc(1, root, item(2, crowded()), item(3, api.Object{Kind: 99})), sample.Doc(1, root, item(api.MaxNum+1, value.Null()))} {
		refuses(t, docs.Check(d), d, levels...)
		if g := pack.Groups(d); docs.Check(d) == api.OK || len(g) > 0 {
			t.Errorf("Groups(%s) = %v", brief(d), g)
		}
	}
	refuses(t, api.ErrArg, sample.Doc(1, root), levels[3:]...)
	refuses(t, api.ErrArg, sample.Doc(1, root, item(2, crowded()), item(api.MaxNum, value.Null())), levels[3:]...)
	refuses(t, api.ErrFull, sample.Doc(1, root, long, item(3, crowded()), item(api.MaxNum, value.Null())), levels[:3]...)
	refuses(t, api.ErrMany, sample.Doc(1, root, long, item(3, crowded())), levels[:3]...)
	refuses(t, api.ErrLong, sample.Doc(1, root, long), levels[:3]...)
	d := sample.Doc(1, root)
	for num := range 40 {
		d.Items = append(d.Items, item(num+2, value.String(strings.Repeat("s", api.MaxString))))
	}
	refuses(t, api.ErrLong, d, levels[:3]...)
	// The text of other objects comes first.
	refuses(t, api.ErrMany, sample.Doc(1, append(d.Items, item(99, crowded()))...), levels[:3]...)
	refuses(t, api.ErrMany, scattered(long.Obj.S), levels[:3]...)
}

// scattered returns a document whose numbers are so many runs that a cross-reference stream has no room for them. One of its streams has the given data.
func scattered(data string) api.Doc {
	root := api.Item{Num: 2, Gen: 1, Obj: sample.Dict("")}
	d := api.Doc{Items: []api.Item{root}, Trailer: sample.Dict("Root", value.Ref(2, 1))}
	for num := 4; num < api.MaxNum; num += 2 {
		d.Items = append(d.Items, item(num, streamOf("")))
	}
	d.Items[9].Obj.S = data
	return d
}

// Promise 27.1: as many runs of numbers as a cross-reference stream has room for, and an error of it that comes before the length of the file.
func TestScattered(t *testing.T) {
	d := scattered("")
	refuses(t, api.ErrMany, d, 0, 1, 2)
	d.Items = d.Items[:len(d.Items)-1]
	writes(t, d)
}

// Promise 27.1: the longest file.
func TestLongest(t *testing.T) {
	of := func(size int) api.Doc {
		return sample.Doc(1, item(1, sample.Dict("")), item(2, streamOf(strings.Repeat("s", size))))
	}
	for level := range 3 {
		const about = api.MaxData - 1000
		size := about + api.MaxFile - len(must(pack.File(of(about), level)))
		s, e := pack.File(of(size), level)
		if len(s) != api.MaxFile || e != api.OK {
			t.Errorf("the file has %d bytes: %d", len(s), e)
		}
		if d, e := load.Strict(s); !docs.Same(d, of(size)) || e != api.OK {
			t.Errorf("Strict(File) = %s, %d", brief(d), e)
		}
		refuses(t, api.ErrLong, of(size+1), level)
	}
}

// Promise 27.1: the same document has the same file, and neither what is handed in is changed nor is it shared.
func TestDeterminism(t *testing.T) {
	d := full(2, 150)
	was := full(2, 150)
	g := pack.Groups(d)
	g[0][0] = 99
	for level := range 3 {
		if must(pack.File(d, level)) != must(pack.File(was, level)) || !docs.Same(d, was) {
			t.Errorf("File(%s, %d) is not always the same", brief(d), level)
		}
	}
	if g := pack.Groups(d); g[0][0] != 2 {
		t.Errorf("Groups = %v", g)
	}
}
