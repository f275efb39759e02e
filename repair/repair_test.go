package repair_test

import (
	"fmt"
	"slices"
	"strings"
	"testing"

	"foliant/api"
	"foliant/body"
	"foliant/docs"
	"foliant/packed"
	"foliant/repair"
	"foliant/sample"
	"foliant/value"
	"foliant/write"
)

// brief shows the beginning of anything.
func brief(x any) string { return fmt.Sprintf("%.300s", fmt.Sprintf("%q", fmt.Sprint(x))) }

// plain returns a slot of a plain object.
func plain(num, at, gen int) api.Slot {
	return api.Slot{Num: num, Kind: api.SlotPlain, A: at, B: gen}
}

// in returns a slot of an object in a stream.
func in(num, stream, place int) api.Slot {
	return api.Slot{Num: num, Kind: api.SlotPacked, A: stream, B: place}
}

// root returns the trailer that has a root only.
func root(num, gen int) api.Object { return sample.Dict("Root", value.Ref(num, gen)) }

// Promise 24.1.
func TestScan(t *testing.T) {
	for _, c := range []struct {
		s    string
		want []api.Slot
	}{
		{"", nil}, {"1", nil}, {"1 0", nil}, {"1 0 ob", nil}, {"0 obj", nil}, {"1 obj", nil}, {"obj", nil},
		{"\n3 0 obj 5 endobj 3 1 obj 6 endobj", []api.Slot{plain(3, 18, 1)}},
		{"1 0 obj", []api.Slot{plain(1, 0, 0)}},
		{"8191 65535 obj", []api.Slot{plain(8191, 0, 65535)}},
		{"8192 0 obj", nil}, {"0 0 obj", nil}, {"1 65536 obj", nil}, {"1 -1 obj", nil}, {"99999999999 0 obj", nil}, {"1 99999999999 obj", nil},
		{"+1 0 obj", nil}, {"-1 0 obj", nil}, {"1. 0 obj", nil}, {"1 0. obj", nil}, {"1 0 obje", nil}, {"1 0 Obj", nil}, {"1 0 /obj", nil}, {"1 0 (obj)", nil}, {"1 (0) obj", nil}, {"1 /0 obj", nil}, {"1 0 [obj", nil}, {"1 0 R", nil}, {"1 ) obj", nil},
		{"x1 0 obj", nil}, {"/1 0 obj", nil}, {"(1 0 obj)", nil}, {"[1 0 obj]", nil}, {">1 0 obj", nil}, {"%1 0 obj", nil}, {"x\x0b1 0 obj", nil}, {"\x801 0 obj", nil},
		{"x 1 0 obj", []api.Slot{plain(1, 2, 0)}}, {"( 1 0 obj)", []api.Slot{plain(1, 2, 0)}}, {"% 1 0 obj", []api.Slot{plain(1, 2, 0)}}, {"1 0 obj(x)", []api.Slot{plain(1, 0, 0)}}, {"1 0 obj<<", []api.Slot{plain(1, 0, 0)}}, {"1 0 obj%", []api.Slot{plain(1, 0, 0)}}, {"1 0 obj/A", []api.Slot{plain(1, 0, 0)}},
		{"\x001 0 obj\t2 0 obj\n3 0 obj\f4 0 obj\r5 0 obj 6 0 obj", []api.Slot{plain(1, 1, 0), plain(2, 9, 0), plain(3, 17, 0), plain(4, 25, 0), plain(5, 33, 0), plain(6, 41, 0)}},
		{"0001 +00002 obj", []api.Slot{plain(1, 0, 2)}}, {"1 -0 obj", []api.Slot{plain(1, 0, 0)}},
		{"1\n%x\r\n\x00%\n0 % 7\r\robj", []api.Slot{plain(1, 0, 0)}},
		{"1%\n0%\nobj", []api.Slot{plain(1, 0, 0)}},
		{"1 2 0 obj", []api.Slot{plain(2, 2, 0)}},
		{"12 0 obj", []api.Slot{plain(12, 0, 0)}},
		{"1 0 obj 2 0 obj 1 1 obj 2 5 obj 1 0 x", []api.Slot{plain(1, 16, 1), plain(2, 24, 5)}},
		{"9 0 obj 3 0 obj 5 0 obj", []api.Slot{plain(3, 8, 0), plain(5, 16, 0), plain(9, 0, 0)}},
		{"1 % 1 % 1 %1\n0 obj", []api.Slot{plain(1, 8, 0)}},
		{"1 % 2 0 obj\n0 obj", []api.Slot{plain(1, 0, 0), plain(2, 4, 0)}},
		{"1 0 % 7\n2 obj obj", []api.Slot{plain(7, 6, 2)}}, {"1 0 % 7\nobj", []api.Slot{plain(1, 0, 0)}},
		{"1 0 obj stream 2 0 obj endstream", []api.Slot{plain(1, 0, 0), plain(2, 15, 0)}},
	} {
		if got := repair.Scan(c.s); !slices.Equal(got, c.want) {
			t.Errorf("Scan(%q) = %v, want %v", c.s, got, c.want)
		}
		if got := repair.Slots(c.s); !slices.Equal(got, c.want) {
			t.Errorf("Slots(%q) = %v, want %v", c.s, got, c.want)
		}
	}
}

// Promise 24.1, for files that have much to look through behind each digit.
func TestScanLarge(t *testing.T) {
	for _, c := range []struct {
		unit, end string
		want      int
	}{{"1 (", "", 0}, {"1 %", "", 0}, {"1 %", "\n0 obj", 1}, {"1 0 %", "", 0}, {"1 <", "", 0}, {"1 ", "obj", 1}, {"1", " 0 obj", 0}, {"1 0 obj ", "", 1}, {"trailer(", "", 0}, {"trailer%", "", 0}} {
		s := strings.Repeat(c.unit, 1<<18/len(c.unit)) + c.end
		if got := repair.Scan(s); len(got) != c.want {
			t.Errorf("Scan of many %q = %v", c.unit, got)
		}
		if got := repair.Trailers(s); len(got) > 0 {
			t.Errorf("Trailers of many %q = %v", c.unit, got)
		}
	}
	var s strings.Builder
	for i := range api.MaxNum {
		s.WriteString(fmt.Sprintf("%d %d obj ", api.MaxNum-i, i))
	}
	got := repair.Scan(s.String())
	if len(got) != api.MaxNum || got[0].B != api.MaxNum-1 || got[api.MaxNum-1] != plain(api.MaxNum, 0, 0) {
		t.Errorf("Scan of all numbers has %d", len(got))
	}
}

// Promise 24.2.
func TestTrailers(t *testing.T) {
	num := value.Int
	stream := func(head, entries string) string {
		return head + "<<" + entries + "/Length 1>>stream\nxendstream endobj\n"
	}
	xref := func(n int) api.Object { return sample.Dict("A Type", num(int64(n)), value.Name("XRef")) }
	for _, c := range []struct {
		s    string
		want []api.Object
	}{
		{"", nil}, {"trailer", nil}, {"trailer 5", nil}, {"trailer[<<>>]", nil}, {"trailer<<", nil}, {"trailer<</A 1/A 2>>", nil}, {"trailer)<<>>", nil}, {"trailers<<>>", nil}, {"traile<<>>", nil}, {"Trailer<<>>", nil}, {"trailer(<<>>)", nil}, {"trailer x<<>>", nil}, {"trailer<41>", nil},
		{"trailer<<>>", []api.Object{sample.Dict("")}},
		{"xtrailer %<<\n\r<</A 1/B null>>x", []api.Object{sample.Dict("A", num(1))}},
		{"trailer<</A 1>>trailer<</A 2>>", []api.Object{sample.Dict("A", num(2)), sample.Dict("A", num(1))}},
		{"trailer trailer<</A(trailer<</A 3>>)>>trailer", []api.Object{sample.Dict("A", num(3)), sample.Dict("A", value.String("trailer<</A 3>>"))}},
		{"trailer<</A 1>>trailer<</A>>", []api.Object{sample.Dict("A", num(1))}},
		{stream("1 0 obj", "/Type/XRef/A 1"), []api.Object{xref(1)}},
		{stream("1 0 obj", "/Type/XRef/A 1") + stream("2 0 obj", "/Type/XRef/A 2") + "trailer<</A 3>>" + stream("\n3 0 obj", "/A 4/Type/XRef") + "trailer<</A 5>>", []api.Object{sample.Dict("A", num(5)), sample.Dict("A", num(3)), xref(4), xref(2), xref(1)}},
		{stream("5 0 obj", "/Type/XRef/A 1") + stream("4 0 obj", "/Type/XRef/A 2") + stream("5 0 obj", "/Type/XRef/A 3"), []api.Object{xref(3), xref(2)}},
		{stream("5 0 obj", "/Type/XRef/A 1") + "5 0 obj 7 endobj", nil},
		{stream("1 0 obj", "/Type/Xref/A 1") + stream("2 0 obj", "/Type(XRef)/A 1") + stream("3 0 obj", "/A 1") + stream("4 0 obj", "/Type/ObjStm/A 1"), nil},
		{"1 0 obj<</Type/XRef/A 1>>endobj", nil},
		{"1 0 obj<</Type/XRef/A 1/Length 2 0 R>>stream\nxendstream endobj 2 0 obj 1 endobj", nil},
		{"1 0 obj<</Type/XRef/A 1/Length 2>>stream\nxendstream endobj", nil},
		{"1 0 obj<</Type/XRef/A 1/Length 1>>stream\nxendstream", nil},
		{stream("x1 0 obj", "/Type/XRef/A 1"), nil},
	} {
		if got := repair.Trailers(c.s); !slices.EqualFunc(got, c.want, value.Same) {
			t.Errorf("Trailers(%q) = %s, want %s", c.s, brief(got), brief(c.want))
		}
	}
}

// holding returns the text of an object stream of items, or of nulls with the given numbers.
func holding(head string, nums ...int) string {
	var l []api.Item
	for _, num := range nums {
		l = append(l, api.Item{Num: num})
	}
	o, e := packed.Make(l)
	if e != api.OK {
		panic(fmt.Sprint("no such stream: ", e))
	}
	text, _ := body.Text(api.Item{Num: 1, Obj: o})
	return "\n" + head + strings.TrimPrefix(text, "1 0 obj")
}

// twice returns the text of an object stream that is not encoded, with the objects 1 and 2 of the same number.
func twice(head string, num int) string {
	return fmt.Sprintf("\n%s<</Type/ObjStm/N 2/First 8/Length 11>>stream\n%d 0 %d 2 1 2\nendstream endobj", head, num, num)
}

// Promise 24.3.
func TestSlots(t *testing.T) {
	for i, c := range []struct {
		s    string
		want []api.Slot
	}{
		{holding("9 0 obj", 3, 5, 4), []api.Slot{in(3, 9, 0), in(4, 9, 2), in(5, 9, 1), plain(9, 1, 0)}},
		{holding("9 0 obj"), []api.Slot{plain(9, 1, 0)}},
		{holding("9 7 obj", 3), []api.Slot{in(3, 9, 0), plain(9, 1, 7)}},
		{holding("9 0 obj", 3, 9), []api.Slot{in(3, 9, 0), plain(9, 1, 0)}},
		{"\n5 0 obj 7 endobj" + holding("9 0 obj", 3, 5), []api.Slot{in(3, 9, 0), plain(5, 1, 0), plain(9, 18, 0)}},
		{"\n5 0 obj [" + holding("9 0 obj", 3, 5), []api.Slot{in(3, 9, 0), plain(5, 1, 0), plain(9, 11, 0)}},
		{twice("9 0 obj", 3), []api.Slot{in(3, 9, 1), plain(9, 1, 0)}},
		{twice("9 0 obj", 3) + twice("4 0 obj", 3), []api.Slot{in(3, 4, 1), plain(4, 82, 0), plain(9, 1, 0)}},
		{twice("4 0 obj", 3) + twice("9 0 obj", 3), []api.Slot{in(3, 9, 1), plain(4, 1, 0), plain(9, 82, 0)}},
		{twice("4 0 obj", 3) + twice("4 0 obj", 5), []api.Slot{plain(4, 82, 0), in(5, 4, 1)}},
		{twice("4 0 obj", 3) + "\n4 0 obj 5 endobj", []api.Slot{plain(4, 82, 0)}},
		{twice("4 0 obj", 3) + "\n4 0 obj [", []api.Slot{plain(4, 82, 0)}},
		{strings.Replace(twice("4 0 obj", 3), "/Length 11", "/Length 6 0 R", 1) + " 6 0 obj 11 endobj", []api.Slot{in(3, 4, 1), plain(4, 1, 0), plain(6, 85, 0)}},
		{strings.Replace(twice("4 0 obj", 3), "/Length 11", "/Length 6 0 R", 1) + " 6 0 obj 12 endobj", []api.Slot{in(3, 4, 1), plain(4, 1, 0), plain(6, 85, 0)}},
		{strings.Replace(twice("4 0 obj", 3), "/Length 11", "/Length 6 0 R", 1) + " 6 0 obj 13 endobj", []api.Slot{plain(4, 1, 0), plain(6, 85, 0)}},
		{strings.Replace(twice("4 0 obj", 3), "/Length 11", "/Length 6 0 R", 1) + " 7 0 obj 11 endobj", []api.Slot{plain(4, 1, 0), plain(7, 85, 0)}},
		{strings.Replace(twice("4 0 obj", 3), "/Length 11", "/Length 4 0 R", 1), []api.Slot{plain(4, 1, 0)}},
		{strings.Replace(twice("4 0 obj", 3), "ObjStm", "XRef", 1), []api.Slot{plain(4, 1, 0)}},
		{strings.Replace(twice("4 0 obj", 3), "/N 2", "/N 3", 1), []api.Slot{plain(4, 1, 0)}},
		{strings.Replace(twice("4 0 obj", 3), "/N 2", "/N 1", 1), []api.Slot{in(3, 4, 0), plain(4, 1, 0)}},
		{strings.Replace(twice("4 0 obj", 3), "1 2\n", "1 x\n", 1), []api.Slot{plain(4, 1, 0)}},
		{strings.Replace(twice("4 0 obj", 3), "endobj", "endobx", 1), []api.Slot{plain(4, 1, 0)}},
		{strings.Replace(twice("4 0 obj", 8191), "/Length 11", "/Length 17", 1), []api.Slot{plain(4, 1, 0)}},
		{"\n1 0 obj<</Type/ObjStm/N 0/First 0>>endobj", []api.Slot{plain(1, 1, 0)}},
	} {
		if got := repair.Slots(c.s); !slices.Equal(got, c.want) {
			t.Errorf("Slots %d of %q = %v, want %v", i, c.s, got, c.want)
		}
	}
}

// Promise 24.4: files from which no document comes.
func TestFileFails(t *testing.T) {
	xref := "1 0 obj<</Type/XRef/Root 1 0 R/Length 0>>stream\nendstream endobj "
	for s, want := range map[string]api.Errno{
		"": api.ErrLost, "1 0 obj": api.ErrLost, "1 0 obj [": api.ErrLost, "trailer<</Root 1 0 R>>": api.ErrLost, "1 0 obj 2 0 R endobj": api.ErrLost, xref: api.ErrLost, "x1 0 obj<</Type/Catalog>>endobj": api.ErrLost,
		holding("9 0 obj"): api.ErrLost, "1 0 obj<</Type/Catalog>> 1 0 obj<</Type/Catalog>>endobj 1 0 obj[": api.ErrLost,
		"1 0 obj 5 endobj": api.ErrTrail, "1 0 obj<<>>endobj": api.ErrTrail, "1 0 obj<</Type/Pages>>endobj": api.ErrTrail, "1 0 obj<</Type(Catalog)>>endobj": api.ErrTrail, "1 0 obj<</Type 2 0 R>>endobj 2 0 obj/Catalog endobj": api.ErrTrail,
		"1 0 obj<</Type/Catalog/Length 0>>stream\nendstream endobj trailer<</Root 1 0 R>>": api.ErrTrail, "1 0 obj 5 endobj trailer<</Root 1 0 R>>": api.ErrTrail, xref + "2 0 obj[]endobj": api.ErrTrail, holding("9 0 obj", 3): api.ErrTrail,
		"1 0 obj<<>>endobj trailer<</Root 2 0 R>>": api.ErrTrail, "1 0 obj<<>>endobj trailer<</Root 1 1 R>>": api.ErrTrail, "1 2 obj<<>>endobj trailer<</Root 1 0 R>>": api.ErrTrail, "1 0 obj<<>>endobj trailer<</Root<<>>>>": api.ErrTrail, "1 0 obj<<>>endobj trailer<</Root 1>>": api.ErrTrail, "1 0 obj<<>>endobj trailer[/Root 1 0 R]": api.ErrTrail,
	} {
		d, failed, e := repair.File(s)
		if !docs.Same(d, api.Doc{}) || len(failed) > 0 || e != want {
			t.Errorf("File(%q) = %s, %v, %d, want %d", s, brief(d), failed, e, want)
		}
	}
}

// Promises 24.4 and 24.6.
func TestFile(t *testing.T) {
	item := func(num, gen int, o api.Object) api.Item { return api.Item{Num: num, Gen: gen, Obj: o} }
	catalog, empty, five := sample.Dict("Type", value.Name("Catalog")), sample.Dict(""), value.Int(5)
	xref := func(num, to int) string {
		return fmt.Sprintf(" %d 0 obj<</Type/XRef/Size 1/Info 7 0 R/Root %d 0 R/Length 0>>stream\nendstream endobj ", num, to)
	}
	all := sample.Dict("ID Info Root", value.Array(), value.Ref(9, 0), value.Ref(1, 0))
	for _, c := range []struct {
		s      string
		want   api.Doc
		failed []int
	}{
		{"1 0 obj <</Type /Catalog>> endobj", api.Doc{Items: []api.Item{item(1, 0, catalog)}, Trailer: root(1, 0)}, nil},
		{"8191 65535 obj <</Type /Catalog>> endobj", api.Doc{Items: []api.Item{item(8191, 65535, catalog)}, Trailer: root(8191, 65535)}, nil},
		{"3 1 obj<</Type/Catalog>>endobj 1 0 obj<</Type/Catalog>>endobj 5 0 obj<<>>endobj", api.Doc{Items: []api.Item{item(1, 0, catalog), item(3, 1, catalog), item(5, 0, empty)}, Trailer: root(3, 1)}, nil},
		{"1 0 obj<<>>endobj trailer<</Size 4/Root 1 0 R/Prev 8/ID[]/Info 9 0 R/Encrypt 1>>", api.Doc{Items: []api.Item{item(1, 0, empty)}, Trailer: all}, nil},
		{"1 0 obj<<>>endobj trailer<</Root 1 0 R>> 2 0 obj<</Type/Catalog>>endobj", api.Doc{Items: []api.Item{item(1, 0, empty), item(2, 0, catalog)}, Trailer: root(1, 0)}, nil},
		{"trailer<</Root 1 0 R/ID 5>>trailer<</Root 2 0 R>>1 0 obj<<>>endobj 1 0 obj<<>>endobj 2 0 obj<<>>endobj", api.Doc{Items: []api.Item{item(1, 0, empty), item(2, 0, empty)}, Trailer: root(2, 0)}, nil},
		{"trailer<</Root 1 0 R/ID 5>>trailer<</Root 2 0 R>>trailer<<>>trailer<</Root 1 3 R>>trailer<</Root 3 0 R>>\n1 0 obj<<>>endobj 2 0 obj 5 endobj", api.Doc{Items: []api.Item{item(1, 0, empty), item(2, 0, five)}, Trailer: sample.Dict("ID Root", five, value.Ref(1, 0))}, nil},
		{"1 0 obj<<>>endobj" + xref(4, 1) + "2 0 obj<<>>endobj", api.Doc{Items: []api.Item{item(1, 0, empty), item(2, 0, empty)}, Trailer: sample.Dict("Info Root", value.Ref(7, 0), value.Ref(1, 0))}, nil},
		{"1 0 obj<<>>endobj" + xref(4, 1) + "2 0 obj<<>>endobj trailer<</Root 2 0 R>>", api.Doc{Items: []api.Item{item(1, 0, empty), item(2, 0, empty)}, Trailer: root(2, 0)}, nil},
		{"1 0 obj<<>>endobj" + xref(3, 1) + "2 0 obj<<>>endobj" + xref(4, 9) + " 6 0 obj<</Type/Catalog>>endobj 5 0 obj [ 7 0 obj", api.Doc{Items: []api.Item{item(1, 0, empty), item(2, 0, empty), item(6, 0, catalog)}, Trailer: sample.Dict("Info Root", value.Ref(7, 0), value.Ref(1, 0))}, []int{5, 7}},
		{"1 0 obj<</Type/Catalog>>endobj" + holding("9 0 obj", 3, 1, 4), api.Doc{Items: []api.Item{item(1, 0, catalog), item(3, 0, value.Null()), item(4, 0, value.Null())}, Trailer: root(1, 0)}, nil},
		{"1 0 obj<</Type/Catalog>>endobj 8 0 obj<</Length 9 0 R>>stream\nabcendstream endobj 9 0 obj 3 endobj 6 0 obj<</Length 5 0 R>>stream\nendstream endobj", api.Doc{Items: []api.Item{item(1, 0, catalog), item(8, 0, api.Object{Kind: api.KStream, S: "abc"}), item(9, 0, value.Int(3))}, Trailer: root(1, 0)}, []int{6}},
		{"1 0 obj<</Type/Catalog>>endobj 1 0 obj[ 2 0 obj<</Type/Catalog>>endobj", api.Doc{Items: []api.Item{item(2, 0, catalog)}, Trailer: root(2, 0)}, []int{1}},
		{"4 0 obj<</Type/ObjStm/N 1/First 4/Length 21>>stream\n1 0 <</Type/Catalog>>\nendstream endobj", api.Doc{Items: []api.Item{item(1, 0, catalog)}, Trailer: root(1, 0)}, nil},
	} {
		d, failed, e := repair.File(c.s)
		if !docs.Same(d, c.want) || !slices.Equal(failed, c.failed) || e != api.OK {
			t.Errorf("File(%q) = %s, %v, %d, want %s, %v", c.s, brief(d), failed, e, brief(c.want), c.failed)
		}
		if docs.Check(d) != api.OK {
			t.Errorf("File(%q) is not valid", c.s)
		}
	}
}

// Promise 24.5.
func TestRecovery(t *testing.T) {
	breaks := []string{"\n", "\r", "\r\n"}
	for n, d := range sample.Docs() {
		seed := uint32(n)
		trailer, _ := write.Text(d.Trailer)
		for turn := range 3 {
			var s strings.Builder
			s.WriteString("%PDF-1.4 xref 0 9 startxref 7 %%EOF")
			for _, at := range shuffled(&seed, len(d.Items)) {
				text, e := body.Text(d.Items[at])
				if e != api.OK {
					t.Fatalf("the item %d of document %d has no text", at, n)
				}
				s.WriteString(breaks[turn] + text)
			}
			s.WriteString("trailer" + breaks[turn] + trailer + "\nstartxref 99999 %%EOF")
			got, failed, e := repair.File(s.String())
			if !docs.Same(got, d) || len(failed) > 0 || e != api.OK {
				t.Errorf("File of document %d has %d items, %v, %d", n, len(got.Items), failed, e)
			}
		}
	}
}

// shuffled returns the numbers from 0 to n, not included, in an order that looks irregular.
func shuffled(seed *uint32, n int) []int {
	var l []int
	for i := range n {
		l = slices.Insert(l, pick(seed, i+1), i)
	}
	return l
}
