package linear_test

import (
	"fmt"
	"slices"
	"strings"
	"testing"
	"time"

	"foliant/api"
	"foliant/catalog"
	"foliant/docs"
	"foliant/linear"
	"foliant/sample"
	"foliant/value"
)

// brief shows the beginning of anything.
func brief(x any) string { return fmt.Sprintf("%.300s", fmt.Sprintf("%q", fmt.Sprint(x))) }

// item returns an item of generation 0.
func item(num int, o api.Object) api.Item { return api.Item{Num: num, Obj: o} }

// ref returns a reference of generation 0.
func ref(num int) api.Object { return sample.Ref(num, 0) }

func sameItem(a, b api.Item) bool {
	return a.Num == b.Num && a.Gen == b.Gen && value.Same(a.Obj, b.Obj)
}

// streamOf returns a stream without entries.
func streamOf(data string) api.Object { return api.Object{Kind: api.KStream, S: data} }

// crowded returns a stream that has no room for its length among its entries.
func crowded() api.Object {
	o := sample.Broad(api.MaxKids)
	o.Kind = api.KStream
	return o
}

// refs returns the array of references to items of generation 0.
func refs(nums ...int) api.Object {
	o := value.Array()
	for _, num := range nums {
		o.Kids = append(o.Kids, ref(num))
	}
	return o
}

// docOf returns a document whose catalog is 1 and whose page tree begins at 2, with the other items from 2 on.
func docOf(items ...api.Object) api.Doc {
	d := sample.Doc(1, item(1, sample.Dict("Pages", ref(2))))
	for n, o := range items {
		d.Items = append(d.Items, item(n+2, o))
	}
	return d
}

// orders checks the groups of a document.
func orders(t *testing.T, d api.Doc, want ...[]int) {
	t.Helper()
	got, e := linear.Order(d)
	if !slices.EqualFunc(got, want, slices.Equal[[]int]) || e != api.OK {
		t.Errorf("Order(%s) = %v, %d, want %v", brief(d), got, e, want)
	}
	answers(t, d)
}

// fails checks that a document has no order, or only no file.
func fails(t *testing.T, d api.Doc, orderErr, fileErr api.Errno) {
	t.Helper()
	if got, e := linear.Order(d); e != orderErr || e != api.OK && len(got) > 0 {
		t.Errorf("Order(%s) = %v, %d, want %d", brief(d), got, e, orderErr)
	}
	if s, e := linear.File(d); s != "" || e != fileErr {
		t.Errorf("File(%s) = %s, %d, want %d", brief(d), brief(s), e, fileErr)
	}
}

// small returns the document of an example, and its file.
func small() (api.Doc, string) {
	d := sample.Doc(1, item(1, sample.Dict("Pages", ref(2))), item(2, sample.Dict("Kids", refs(3, 4))), item(3, sample.Dict("A Parent", ref(6), ref(2))), item(4, sample.Dict("A Parent", refs(5, 6), ref(2))), api.Item{Num: 5, Gen: 2, Obj: value.Int(5)}, item(6, value.Int(6)), item(9, value.Int(9)))
	d.Items[3].Obj.Kids[0].Kids[0].G = 2
	d.Trailer = sample.Dict("Info Root", ref(9), ref(1))
	// Two pages with 3 and 2 objects, 90 and 65 bytes, at 278 and 0, so that the columns have the widths 1, 5 and 9.
	hints := "\x00\x00\x00\x02" + "\x00\x00\x00\x02\x00\x00\x00\x41\x00\x00\x00\x00" + "\x00\x01\x00\x05\x00\x09" + "\x80" + "\xc8\x00" + "\x8b\x00\x00"
	s := "%PDF-1.7\n%\xe2\xe3\xcf\xd3\n" +
		"8191 0 obj\n<</E 0000000447/H[0000000368 0000000079]/L 0000000751/Linearized 1/N 2/O 3/T 0000000567>>\nendobj\n" +
		"xref\n1 1\n0000000278 00000 n \n3 1\n0000000310 00000 n \n6 1\n0000000351 00000 n \n" +
		"trailer\n<</Info 9 0 R/Root 1 0 R/Size 10 /Prev 0000000567>>\nstartxref\n0\n%%EOF\n" +
		"1 0 obj\n<</Pages 2 0 R>>\nendobj\n3 0 obj\n<</A 6 0 R/Parent 2 0 R>>\nendobj\n6 0 obj\n6\nendobj\n" +
		"8191 0 obj\n<</Length 28>>\nstream\n" + hints + "\nendstream\nendobj\n" +
		"4 0 obj\n<</A[5 2 R 6 0 R]/Parent 2 0 R>>\nendobj\n5 2 obj\n5\nendobj\n2 0 obj\n<</Kids[3 0 R 4 0 R]>>\nendobj\n9 0 obj\n9\nendobj\n" +
		"xref\n0 1\n0000000000 65535 f \n2 1\n0000000512 00000 n \n4 2\n0000000447 00000 n \n0000000495 00002 n \n9 1\n0000000550 00000 n \n" +
		"trailer\n<</Info 9 0 R/Root 1 0 R/Size 10>>\nstartxref\n123\n%%EOF\n"
	return d, s
}

// Promises 33.1 to 33.4, by a file that was written by hand.
func TestSmall(t *testing.T) {
	d, want := small()
	s, e := linear.File(d)
	if s != want || e != api.OK {
		t.Errorf("File = %q, %d, want %q", s, e, want)
	}
	orders(t, d, []int{1, 3, 6}, []int{4, 5}, []int{2, 9})
}

// Promise 33.1, by the example of the chapter, and by new documents.
func TestNewDocuments(t *testing.T) {
	for _, n := range []int{1, 2, 3, 100} {
		d, _ := catalog.New(n)
		groups, e := linear.Order(d)
		if len(groups) != n+1 || e != api.OK {
			t.Errorf("a document with %d pages has %d groups, %d", n, len(groups), e)
		}
		answers(t, d)
	}
	d, _ := catalog.New(0)
	fails(t, d, api.ErrPage, api.ErrPage)
	d, _ = catalog.New(api.MaxPages)
	groups, e := linear.Order(d)
	if len(groups) != api.MaxPages+1 || !slices.Equal(groups[0], []int{1, 3}) || !slices.Equal(groups[api.MaxPages], []int{2}) || e != api.OK {
		t.Errorf("the widest tree has %d groups, %d", len(groups), e)
	}
	if s, e := linear.File(d); len(s) == 0 || e != api.OK {
		t.Errorf("File of the widest tree = %d", e)
	}
	d.Items[1].Obj.Kids[1].Kids = append(d.Items[1].Obj.Kids[1].Kids, ref(api.MaxPages+3))
	d.Items = append(d.Items, item(api.MaxPages+3, sample.Dict("")))
	fails(t, d, api.ErrPage, api.ErrPage)
}

// Promise 33.1: what is a page tree, and what is none.
func TestPageTree(t *testing.T) {
	page := sample.Dict("")
	kids := func(o api.Object) api.Object { return sample.Dict("Kids", o) }
	orders(t, docOf(page), []int{1, 2}, nil)
	orders(t, docOf(kids(value.Int(5))), []int{1, 2}, nil)
	orders(t, docOf(kids(ref(9))), []int{1, 2}, nil)
	orders(t, docOf(kids(ref(3)), value.Array(ref(5), ref(4)), page, page), []int{1, 5}, []int{4}, []int{2, 3})
	orders(t, docOf(kids(refs(3, 4)), kids(refs()), page), []int{1, 4}, []int{2, 3})
	self := docOf()
	self.Items[0].Obj = sample.Dict("Pages", ref(1))
	orders(t, self, []int{1}, nil)
	for _, o := range []api.Object{value.Null(), page, value.Int(-2), ref(7), sample.Ref(3, 1), ref(4), ref(5), value.Array(ref(3)), value.Name("x")} {
		d := docOf(kids(value.Array(ref(3), o)), page, value.Array(), api.Object{Kind: api.KStream})
		fails(t, d, api.ErrPage, api.ErrPage)
		d = docOf(page, page, value.Array(), api.Object{Kind: api.KStream})
		d.Items[0].Obj, _ = value.Set(d.Items[0].Obj, "Pages", o)
		if o.Kind != api.KRef || o.N != 3 || o.G != 0 {
			fails(t, d, api.ErrPage, api.ErrPage)
		}
	}
	fails(t, docOf(kids(refs())), api.ErrPage, api.ErrPage)
	fails(t, docOf(kids(refs(3, 3)), page), api.ErrPage, api.ErrPage)
	fails(t, docOf(kids(refs(2))), api.ErrPage, api.ErrPage)
	fails(t, docOf(kids(refs(3)), kids(refs(2))), api.ErrPage, api.ErrPage)
	fails(t, docOf(kids(refs(3, 4)), kids(refs(4)), page), api.ErrPage, api.ErrPage)
	var deep []api.Object
	for n := range api.MaxDepth - 1 {
		deep = append(deep, kids(refs(n+3)))
	}
	answers(t, docOf(append(deep, page)...))
	if groups, e := linear.Order(docOf(append(deep, page)...)); len(groups) != 2 || e != api.OK {
		t.Errorf("the deepest tree has the groups %v, %d", groups, e)
	}
	fails(t, docOf(append(deep, kids(refs(api.MaxDepth+2)), page)...), api.ErrPage, api.ErrPage)
}

// Promise 33.1: what a page needs.
func TestNeeds(t *testing.T) {
	kids := func(o api.Object) api.Object { return sample.Dict("Kids", o) }
	typed := func(kind string, o api.Object) api.Object {
		return sample.Dict("A Type", o, value.Name(kind))
	}
	stream := api.Object{Kind: api.KStream, Keys: []string{"A", "Type"}, Kids: []api.Object{ref(7), value.Name("Page")}}
	// Pages and the like are not needed, nor followed, but streams are, and arrays and dictionaries of another type.
	orders(t, docOf(kids(refs(3, 4)), sample.Dict("A", value.Array(ref(5), sample.Dict("B", ref(6)))), sample.Dict("A", ref(7)), typed("Page", ref(8)), stream, value.Array(ref(8)), value.Null()), []int{1, 3, 6, 7, 8}, []int{4}, []int{2, 5})
	for kind, needed := range map[string]bool{"Page": false, "Pages": false, "Catalog": false, "page": true, "Font": true, "": true} {
		want := [][]int{{1, 3}, {2, 4, 5}}
		if needed {
			want = [][]int{{1, 3, 4, 5}, {2}}
		}
		orders(t, docOf(kids(refs(3)), sample.Dict("A", ref(4)), typed(kind, ref(5)), value.Null()), want...)
	}
	// A type that is no name, or one by way of a reference, is none of those.
	for _, kind := range []api.Object{value.String("Page"), ref(5), value.Array(value.Name("Page"))} {
		orders(t, docOf(kids(refs(3)), sample.Dict("A", ref(4)), sample.Dict("A Type", ref(5), kind), value.Name("Page")), []int{1, 3, 4, 5}, []int{2})
	}
	// A page's own Parent is not followed, at whatever depth it refers to something, but that of others is.
	orders(t, docOf(kids(refs(3)), sample.Dict("Parent", value.Array(ref(4), sample.Dict("A", ref(5)))), value.Null(), value.Null()), []int{1, 3}, []int{2, 4, 5})
	orders(t, docOf(kids(refs(3)), sample.Dict("A Parent", ref(5), value.Array(ref(4), ref(5))), value.Null(), value.Null()), []int{1, 3, 5}, []int{2, 4})
	orders(t, docOf(kids(refs(3)), sample.Dict("A", sample.Dict("Parent", ref(4))), value.Null()), []int{1, 3, 4}, []int{2})
	orders(t, docOf(kids(refs(3)), sample.Dict("A Parent", ref(4), ref(6)), sample.Dict("B Parent", ref(3), ref(5)), value.Null(), value.Null()), []int{1, 3, 4, 5}, []int{2, 6})
	// Another page by whose way the Parent of the first one is reached.
	orders(t, docOf(kids(refs(3, 4)), sample.Dict("A Parent", ref(5), ref(6)), sample.Dict("A Parent", ref(5), ref(7)), sample.Dict("A", ref(3)), value.Null(), value.Null()), []int{1, 3, 5}, []int{4, 6}, []int{2, 7})
	orders(t, docOf(kids(refs(3, 4)), typed("Page", ref(5)), sample.Dict("A", ref(5)), sample.Dict("A", ref(3))), []int{1, 3, 5}, []int{4}, []int{2})
	// References that refer to nothing, or with another generation.
	orders(t, docOf(kids(refs(3)), sample.Dict("A", value.Array(ref(9), sample.Ref(4, 1), ref(8191))), value.Null()), []int{1, 3}, []int{2, 4})
	// The catalog is in the first group, but not what only it refers to, and a page that another one needs is in its group.
	orders(t, docOf(kids(refs(3, 4)), sample.Dict("A", ref(4)), sample.Dict("A", ref(1))), []int{1, 2, 3, 4}, nil, nil)
	orders(t, docOf(kids(refs(3, 4)), sample.Dict(""), sample.Dict("A", ref(1))), []int{1, 3}, []int{2, 4}, nil)
}

// Promise 33.1: the errors of documents, and of their items.
func TestErrors(t *testing.T) {
	for _, b := range sample.BadDocs() {
		fails(t, b.Is, b.Err, b.Err)
	}
	page := sample.Dict("Contents", ref(4))
	with := func(o api.Object) api.Doc { return docOf(sample.Dict("Kids", refs(3)), page, o) }
	last := with(crowded())
	last.Items = append(last.Items, item(api.MaxNum, value.Null()))
	fails(t, last, api.OK, api.ErrRange)
	last.Items[0].Obj = sample.Dict("")
	fails(t, last, api.ErrPage, api.ErrPage)
	last = with(value.Null())
	last.Items = append(last.Items, item(api.MaxNum-1, value.Null()))
	answers(t, last)
	fails(t, with(crowded()), api.OK, api.ErrMany)

	large := func(n int) api.Object { return streamOf(strings.Repeat("s", n)) }
	rest := func(d api.Doc, list ...api.Object) api.Doc {
		for _, o := range list {
			d.Items = append(d.Items, item(d.Items[len(d.Items)-1].Num+1, o))
		}
		return d
	}
	fails(t, rest(with(large(600000)), large(600000)), api.OK, api.ErrLong)
	fails(t, rest(with(large(api.MaxData)), value.Null()), api.OK, api.ErrRange)
	fails(t, rest(with(large(api.MaxData)), crowded()), api.OK, api.ErrMany)
	fails(t, rest(with(large(600000)), large(600000), crowded()), api.OK, api.ErrMany)
	// Hints that tell of too many bytes, or of an offset that is too great.
	two := docOf(sample.Dict("Kids", refs(3, 4, 5)), sample.Dict("A", ref(6)), sample.Dict("A", ref(7)), sample.Dict(""), large(400000), large(400000), large(400000))
	fails(t, two, api.OK, api.ErrLong)
	two.Items[3].Obj = sample.Dict("A", value.Array(ref(7), ref(8)))
	fails(t, two, api.OK, api.ErrLong)
	two.Items[7].Obj = large(700000)
	fails(t, two, api.OK, api.ErrRange)
	two.Items[3].Obj, two.Items[4].Obj = sample.Dict("A", ref(8)), sample.Dict("A", ref(7))
	fails(t, two, api.OK, api.ErrLong)
	two = docOf(sample.Dict("Kids", refs(3, 4, 5, 6)), sample.Dict(""), sample.Dict("A", ref(7)), sample.Dict("A", ref(8)), sample.Dict(""), large(600000), large(600000))
	fails(t, two, api.OK, api.ErrRange)
}

// Promise 33.1: a document whose items would be too long for any memory, since they share their data.
func TestTooLong(t *testing.T) {
	d := docOf(sample.Dict("Kids", refs(3)), sample.Dict("A", value.Null()))
	d.Items[2].Obj = sample.Dict("")
	data := strings.Repeat("s", api.MaxData)
	for num := range 300 {
		d.Items = append(d.Items, item(num+4, streamOf(data)))
	}
	fails(t, d, api.OK, api.ErrLong)
}

// Promise 33.1: the longest file.
func TestLongest(t *testing.T) {
	of := func(size int) api.Doc {
		return docOf(sample.Dict("Kids", refs(3)), sample.Dict("A", ref(4)), streamOf(strings.Repeat("s", size)))
	}
	const about = api.MaxData - 2000
	s, _ := linear.File(of(about))
	size := about + api.MaxFile - len(s)
	if s, e := linear.File(of(size)); len(s) != api.MaxFile || e != api.OK {
		t.Errorf("the file has %d bytes, %d", len(s), e)
	}
	answers(t, of(size))
	fails(t, of(size+1), api.OK, api.ErrLong)
}

// Promise 33.1 and P5: as many pages as there may be, each of which needs nearly all else, and which may have types, or parents of their own.
func TestNeedsOfMany(t *testing.T) {
	const firstParent, firstOther = api.MaxPages + 3, 2*api.MaxPages + 3
	for _, c := range []struct{ typed, alone bool }{{true, false}, {true, true}, {false, false}, {false, true}} {
		kids, all := value.Array(), value.Array()
		d := sample.Doc(1, item(1, sample.Dict("Pages", ref(2))), item(2, sample.Dict("")))
		for num := 3; num < api.MaxNum; num++ {
			var o api.Object
			switch {
			case num < firstParent:
				parent := 2
				if c.alone {
					parent = num + api.MaxPages
				}
				o = sample.Dict("A Parent", ref(api.MaxNum-1), ref(parent))
				if c.typed {
					o, _ = value.Set(o, "Type", value.Name("Page"))
				}
				kids.Kids = append(kids.Kids, ref(num))
				all.Kids = append(all.Kids, ref(num))
			case num < firstOther:
				o = value.Int(int64(num))
			case num == firstOther:
				o = all
			case num%100 > 0:
				o = value.Array(ref(num-1), ref(max(num-2, firstOther)))
			default:
				o = value.Array(ref(num-1), all)
			}
			d.Items = append(d.Items, item(num, o))
		}
		d.Items[1].Obj = sample.Dict("Kids", kids)
		begin := time.Now()
		groups, e := linear.Order(d)
		if len(groups) != api.MaxPages+1 || e != api.OK {
			t.Errorf("%d groups, %d", len(groups), e)
		}
		if took := time.Since(begin); took > 30*time.Second {
			t.Errorf("it took %v", took)
		} else {
			t.Log(took)
		}
	}
}

// parameters returns a file that begins with the given entries of parameters, with LENGTH in the place of its length.
func parameters(entries string) string {
	s := "%PDF-1.7\n%\xe2\xe3\xcf\xd3\n7 3 obj <<" + entries + ">> endobj\n"
	length := len(s) - len("LENGTH") + 4
	return strings.Replace(s, "LENGTH", fmt.Sprintf("%04d", length), 1)
}

// Promise 33.2.
func TestRead(t *testing.T) {
	good := "/Linearized 1/L LENGTH/H[10 20]/O 30/E 40/N 50/T 60"
	size := len(parameters(good))
	want := api.Layout{Length: size, Hints: 10, Size: 20, First: 30, End: 40, Pages: 50, Main: 60}
	swap := func(old, new string) string { return strings.Replace(good, old, new, 1) }
	for _, c := range []struct {
		s    string
		want api.Layout
		err  api.Errno
	}{
		{parameters(good), want, api.OK},
		{parameters("/More(x)" + good + "/Zero null"), api.Layout{Length: size + 18, Hints: 10, Size: 20, First: 30, End: 40, Pages: 50, Main: 60}, api.OK},
		{parameters(swap("O 30", "O 2147483647")), api.Layout{Length: size + 8, Hints: 10, Size: 20, First: api.MaxInt, End: 40, Pages: 50, Main: 60}, api.OK},
		{parameters("/Linearized 1/L LENGTH/H[0 2147483647]/O 0/E 0/N 0/T 0"), api.Layout{Length: size + 3, Size: api.MaxInt}, api.OK},
		{parameters(swap("Linearized 1", "Linearized 2")), api.Layout{}, api.ErrHint},
		{parameters(swap("Linearized 1", "Linearized 1.0")), api.Layout{}, api.ErrHint},
		{parameters(swap("Linearized 1", "Linear 1")), api.Layout{}, api.ErrHint},
		{parameters(swap("Linearized 1", "Linearized true")), api.Layout{}, api.ErrHint},
		{parameters(swap("L LENGTH", "L LENGTH0")), api.Layout{}, api.ErrHint},
		{parameters(swap("L LENGTH", "L LENGTH.0")), api.Layout{}, api.ErrHint},
		{parameters(good) + " ", api.Layout{}, api.ErrHint},
		{parameters(good)[:size-1], api.Layout{}, api.ErrHint},
		{parameters(swap("H[10 20]", "H[10]")), api.Layout{}, api.ErrHint},
		{parameters(swap("H[10 20]", "H[10 20 30]")), api.Layout{}, api.ErrHint},
		{parameters(swap("H[10 20]", "H 10")), api.Layout{}, api.ErrHint},
		{parameters(swap("H[10 20]", "H<</A 10/B 20>>")), api.Layout{}, api.ErrHint},
		{parameters(swap("H[10 20]", "H[-1 20]")), api.Layout{}, api.ErrHint},
		{parameters(swap("H[10 20]", "H[10 -20]")), api.Layout{}, api.ErrHint},
		{parameters(swap("H[10 20]", "H[10.0 20]")), api.Layout{}, api.ErrHint},
		{parameters(swap("H[10 20]", "H[10 20 0 R]")), api.Layout{}, api.ErrHint},
		{parameters(swap("/H[10 20]", "")), api.Layout{}, api.ErrHint},
		{parameters(swap("H[10 20]", "H[9999 20]")), api.Layout{}, api.ErrHint},
		{parameters(swap("O 30", "O -1")), api.Layout{}, api.ErrHint},
		{parameters(swap("/O 30", "")), api.Layout{}, api.ErrHint},
		{parameters(swap("E 40", "E -0")), api.Layout{Length: size, Hints: 10, Size: 20, First: 30, Pages: 50, Main: 60}, api.OK},
		{parameters(swap("E 40", "E(40)")), api.Layout{}, api.ErrHint},
		{parameters(swap("E 40", "E 9999")), api.Layout{}, api.ErrHint},
		{parameters(swap("N 50", "N/x")), api.Layout{}, api.ErrHint},
		{parameters(swap("N 50", "N 5 0 R")), api.Layout{}, api.ErrHint},
		{parameters(swap("T 60", "T -60")), api.Layout{}, api.ErrHint},
		{parameters(swap("T 60", "T 1 ")), api.Layout{Length: size, Hints: 10, Size: 20, First: 30, End: 40, Pages: 50, Main: 1}, api.OK},
		{parameters(swap("T 60", "T 9999")), api.Layout{}, api.ErrHint},
		{"%PDF-1.4 7 0 obj<<>>endobj\n%x\r\n \n1 0 obj[]endobj", api.Layout{}, api.ErrHint},
		{"%PDF-1.4\n1 0 obj<</Length 1>>stream\nx\nendstream endobj", api.Layout{}, api.ErrHint},
		{"%PDF-1.4\n", api.Layout{}, api.ErrEnd},
		{"%PDF-1.4", api.Layout{}, api.ErrEnd},
		{"%PDF-1.4\n1 0 obj", api.Layout{}, api.ErrEnd},
		{"%PDF-1.4\n1 0 object", api.Layout{}, api.ErrForm},
		{"%PDF-1.4\n0 0 obj<<>>endobj", api.Layout{}, api.ErrRange},
		{"%PDF-1.4\n1 0 obj 2 0 R endobj", api.Layout{}, api.ErrKind},
		{"%PDF-1.4\n1 0 obj<</Length 2 0 R>>stream\nx\nendstream endobj", api.Layout{}, api.ErrKind},
		{"%PDF-1.4\nxref", api.Layout{}, api.ErrForm},
		{"", api.Layout{}, api.ErrHead},
		{"1 0 obj<<>>endobj", api.Layout{}, api.ErrHead},
		{"%PDF-2.0\n1 0 obj<<>>endobj", api.Layout{}, api.ErrHead},
		{strings.Repeat(" ", api.MaxFile+1), api.Layout{}, api.ErrLong},
		{parameters(good) + strings.Repeat(" ", api.MaxFile), api.Layout{}, api.ErrLong},
		{strings.Repeat(" ", api.MaxFile), api.Layout{}, api.ErrHead},
	} {
		got, e := linear.Read(c.s)
		if got != c.want || e != c.err {
			t.Errorf("Read(%s) = %v, %d, want %v, %d", brief(c.s), got, e, c.want, c.err)
		}
		if list, e := linear.Hints(c.s); c.err != api.OK && (len(list) > 0 || e != c.err) {
			t.Errorf("Hints(%s) = %v, %d, want %d", brief(c.s), list, e, c.err)
		}
		if list, e := linear.First(c.s); c.err != api.OK && (len(list) > 0 || e != c.err) {
			t.Errorf("First(%s) = %v, %d, want %d", brief(c.s), list, e, c.err)
		}
	}
}

// Promise 33.2: what may stand before the header, and between it and the parameters.
func TestBeforeTheParameters(t *testing.T) {
	parms := "1 0 obj<</Linearized 1/L LENGTH/H[0 0]/O 0/E 0/N 0/T 0>>endobj"
	for _, before := range []string{"%PDF-1.0\n", "%PDF-1.9\r", "%PDF-1.7 what\r\n", "ab\ncd\n%PDF-1.7\n", "x\n\n(%PDF-1.7\n", "%PDF-1.7\n%x\n%y\n \t\x00", "%PDF-1.7\n\n\n% 1 0 obj\n"} {
		s := before + parms
		s = strings.Replace(s, "LENGTH", fmt.Sprintf("%04d", len(s)-2), 1)
		if l, e := linear.Read(s); l != (api.Layout{Length: len(s)}) || e != api.OK {
			t.Errorf("Read(%q) = %v, %d", s, l, e)
		}
	}
	if _, e := linear.Read("%PDF-1.7\nx\n" + parms); e != api.ErrForm {
		t.Errorf("Read with a word before the parameters = %d", e)
	}
	if _, e := linear.Read("%PDF-1.7 " + parms); e != api.ErrEnd {
		t.Errorf("Read of parameters on the first line = %d", e)
	}
}

// swapped returns the small file with parts of it in another form, each of the same length, to which spaces are added.
func swapped(t *testing.T, pairs ...string) string {
	t.Helper()
	_, s := small()
	for n := 0; n < len(pairs); n += 2 {
		old, new := pairs[n], pairs[n+1]
		new += strings.Repeat(" ", max(len(old)-len(new), 0))
		if !strings.Contains(s, old) || len(old) != len(new) {
			t.Fatalf("%q can't become %q", old, new)
		}
		s = strings.Replace(s, old, new, 1)
	}
	return s
}

// Promise 33.3.
func TestHints(t *testing.T) {
	want := []api.Hint{{Objects: 3, Bytes: 90, At: 278}, {Objects: 2, Bytes: 65, At: 0}}
	for _, c := range []struct {
		s   string
		err api.Errno
	}{
		{swapped(t), api.OK},
		{swapped(t, "8191 0 obj\n<</Length", "   1 9 obj\n<</Length"), api.OK},
		{swapped(t, "H[0000000368", "H[0000000367"), api.OK},
		{swapped(t, "O 3", "O 0", "E 0000000447", "E 0000000000", "T 0000000567", "T 0000000751", " 0000000079", " 0000000000"), api.OK},
		{swapped(t, "8191 0 obj\n<</Length", "8192 0 obj\n<</Length"), api.ErrRange},
		{swapped(t, "H[0000000368", "H[0000000278"), api.ErrHint},
		{swapped(t, "H[0000000368", "H[0000000351"), api.ErrHint},
		{swapped(t, "H[0000000368", "H[0000000000"), api.ErrHint},
		{swapped(t, "H[0000000368", "H[0000000751"), api.ErrEnd},
		{swapped(t, "H[0000000368", "H[0000000752"), api.ErrHint},
		{swapped(t, "H[0000000368", "H[0000000123"), api.ErrForm},
		{swapped(t, "<</Length 28>>", "<</Length 27>>"), api.ErrHint},
		{swapped(t, "<</Length 28>>", "<</Length 26>>"), api.ErrHint},
		{swapped(t, "<</Length 28>>", "<</Length 29>>"), api.ErrHint},
		{swapped(t, "<</Length 28>>", "<</Length 30>>"), api.ErrForm},
		{swapped(t, "<</Length 28>>", "<</Length 28>]"), api.ErrForm},
		{swapped(t, "<</Length 28>>", "<</Length -1>>"), api.ErrRange},
		{swapped(t, "<</Length 28>>", "<</Length(x)>>"), api.ErrKind},
		{swapped(t, "<</Length 28>>", "<<>>"), api.ErrForm},
		{swapped(t, "\x00\x02\x00\x00\x00\x02", "\x00\x03\x00\x00\x00\x02"), api.ErrHint},
		{swapped(t, "\x80\xc8", "\x81\xc8"), api.ErrHint},
		{swapped(t, "N 2", "N 3"), api.ErrHint},
		{swapped(t, "N 2", "N 1"), api.ErrHint},
		{swapped(t, "N 2", "N 0"), api.ErrHint},
	} {
		list, e := linear.Hints(c.s)
		if e != c.err || e == api.OK && !slices.Equal(list, want) || e != api.OK && len(list) > 0 {
			t.Errorf("Hints(%s) = %v, %d, want %d", c.s[20:130], list, e, c.err)
		}
	}
}

// Promise 33.3: hints that are encoded by filters, or are none.
func TestOtherHints(t *testing.T) {
	head := "%PDF-1.7\n1 0 obj<</Linearized 1/L LENGTH/H[OFF 0]/O 0/E 0/N 1/T 0>>endobj\n"
	hexed := func(data, filter string) string {
		return fmt.Sprintf("2 0 obj<</Length %d/Filter/%s>>stream\n%s\nendstream endobj", len(data), filter, data)
	}
	good := "00000001 00000003 00000064 00000014 000000000000"
	for _, c := range []struct {
		object string
		want   []api.Hint
		err    api.Errno
	}{
		{hexed(good+">", "AHx"), []api.Hint{{Objects: 3, Bytes: 100, At: 20}}, api.OK},
		{hexed(good+"x>", "AHx"), nil, api.ErrForm},
		{hexed(good+">", "Axx"), nil, api.ErrFilter},
		{hexed("00000002"+good[8:]+">", "AHx"), nil, api.ErrHint},
		{hexed(good+"00>", "AHx"), nil, api.ErrHint},
		{hexed("00>", "AHx"), nil, api.ErrHint},
		{"2 0 obj<</Length 0>>stream\n\nendstream endobj", nil, api.ErrHint},
		{"2 0 obj<<>>endobj", nil, api.ErrHint},
		{"2 0 obj[]endobj", nil, api.ErrHint},
		{"2 0 obj 1 0 R endobj", nil, api.ErrKind},
		{"2 0 obj", nil, api.ErrEnd},
	} {
		s := head + c.object
		s = strings.Replace(s, "LENGTH", fmt.Sprintf("%06d", len(s)), 1)
		s = strings.Replace(s, "OFF", fmt.Sprintf("%03d", len(head)), 1)
		if got, e := linear.Hints(s); !slices.Equal(got, c.want) || e != c.err {
			t.Errorf("Hints(%q) = %v, %d, want %v, %d", s, got, e, c.want, c.err)
		}
	}
}

// Promise 33.3.
func TestFirst(t *testing.T) {
	d, s := small()
	one, three, six := d.Items[0], d.Items[2], d.Items[5]
	all := []api.Item{one, three, six}
	for _, c := range []struct {
		s    string
		want []api.Item
		err  api.Errno
	}{
		{s, all, api.OK},
		{s[:447] + strings.Repeat("\x00", len(s)-447), all, api.OK},
		{swapped(t, "H[0000000368 0000000079]", "H[0000000000 0000000000]", "T 0000000567", "T 0000000000"), all, api.OK},
		{swapped(t, "0000000310 00000 n", "0000000309 00000 n"), all, api.OK},
		{swapped(t, "0000000310 00000 n", "0000009999 00007 f"), []api.Item{one, six}, api.OK},
		{swapped(t, "E 0000000447", "E 0000000367"), all, api.OK},
		{swapped(t, "E 0000000447", "E 0000000366"), nil, api.ErrForm},
		{swapped(t, "E 0000000447", "E 0000000351"), nil, api.ErrEnd},
		{swapped(t, "E 0000000447", "E 0000000350"), nil, api.ErrArg},
		{swapped(t, "E 0000000447", "E 0000000344"), nil, api.ErrEnd},
		{swapped(t, "E 0000000447", "E 0000000309"), nil, api.ErrArg},
		{swapped(t, "E 0000000447", "E 0000000200"), nil, api.ErrTable},
		{swapped(t, "E 0000000447", "E 0000000126"), nil, api.ErrTable},
		{swapped(t, "E 0000000447", "E 0000000122"), nil, api.ErrTable},
		{swapped(t, "E 0000000447", "E 0000000000"), nil, api.ErrTable},
		{swapped(t, "xref", "xrey", "startxref", "startxrey"), nil, api.ErrTable},
		{swapped(t, "xref", "x"), nil, api.ErrTable},
		{swapped(t, "trailer", "trailes"), nil, api.ErrTable},
		{swapped(t, "/Prev 0000000567", "/Prev -000000567"), nil, api.ErrTable},
		{swapped(t, "0000000310 00000 n", "0000000278 00000 n"), nil, api.ErrPlace},
		{swapped(t, "0000000310 00000 n", "0000000310 00001 n"), nil, api.ErrPlace},
		{swapped(t, "3 1\n0000000310", "4 1\n0000000310"), nil, api.ErrPlace},
		{swapped(t, "0000000310 00000 n", "0000000311 00000 n"), nil, api.ErrRange},
		{swapped(t, "0000000310 00000 n", "0000000447 00000 n"), nil, api.ErrEnd},
		{swapped(t, "0000000310 00000 n", "0000000448 00000 n"), nil, api.ErrArg},
		{swapped(t, "0000000310 00000 n", "2147483647 00000 n"), nil, api.ErrArg},
		{swapped(t, "0000000310 00000 n", "0000000311 00000 n", "0000000351 00000 n", "0000000448 00000 n"), nil, api.ErrRange},
		// The entries stand in another order than their numbers: first comes the error of the least number.
		{swapped(t, "1 1\n0000000278", "9 1\n0000000550", "6 1\n0000000351", "1 1\n0000000278"), nil, api.ErrArg},
		{swapped(t, "1 1\n0000000278", "9 1\n0000000448", "6 1\n0000000351", "1 1\n0000000279"), nil, api.ErrRange},
		{swapped(t, "1 1\n0000000278", "6 1\n0000000351", "6 1\n0000000351", "1 1\n0000000278"), all, api.OK},
	} {
		got, e := linear.First(c.s)
		if !slices.EqualFunc(got, c.want, sameItem) || e != c.err {
			t.Errorf("First(%q) = %s, %d, want %s, %d", c.s, brief(got), e, brief(c.want), c.err)
		}
	}
}

// Promises 33.2 and 33.3, and P5: files that are damaged, of which nothing is told beside an error.
func TestDamaged(t *testing.T) {
	_, s := small()
	opened := 0
	for at := range len(s) {
		for _, c := range "\x00 09/<%>e" {
			damaged := s[:at] + string(c) + s[at+1:]
			l, e := linear.Read(damaged)
			if e == api.OK {
				opened++
			}
			hints, hintErr := linear.Hints(damaged)
			items, itemErr := linear.First(damaged)
			if e != api.OK && (l != (api.Layout{}) || hintErr != e || itemErr != e) || hintErr != api.OK && len(hints) > 0 || itemErr != api.OK && len(items) > 0 {
				t.Errorf("with %q at %d: %v, %d, %v, %d, %v, %d", c, at, l, e, hints, hintErr, items, itemErr)
			}
		}
		if _, e := linear.Read(s[:at]); e == api.OK {
			t.Errorf("the first %d bytes are a linearized file", at)
		}
	}
	if opened < 4000 {
		t.Errorf("only %d damaged files can be read", opened)
	}
}

// Aliasing: the groups are memory of their own, as are the items.
func TestMemory(t *testing.T) {
	d, s := small()
	groups, _ := linear.Order(d)
	again, _ := linear.Order(d)
	groups[0] = append(groups[0], 99, 99, 99)
	groups[0][0] = 77
	if !slices.Equal(groups[1], again[1]) || again[0][0] != 1 {
		t.Errorf("groups share memory: %v, %v", groups, again)
	}
	items, _ := linear.First(s)
	items[0].Obj.Keys[0] = "x"
	items, _ = linear.First(s)
	if items[0].Obj.Keys[0] != "Pages" || !docs.Same(d, sample.Copy(d)) {
		t.Errorf("items share memory: %v", items)
	}
}
