package names_test

import (
	"fmt"
	"math"
	"slices"
	"strconv"
	"strings"
	"testing"

	"foliant/api"
	"foliant/docs"
	"foliant/names"
	"foliant/sample"
	"foliant/value"
)

// brief shows the beginning of anything.
func brief(x any) string { return fmt.Sprintf("%.700s", fmt.Sprintf("%q", fmt.Sprint(x))) }

// item returns an item of generation 0.
func item(num int, o api.Object) api.Item { return api.Item{Num: num, Obj: o} }

// ref returns a reference of generation 0.
func ref(num int) api.Object { return sample.Ref(num, 0) }

func sameEntries(a, b []api.Entry) bool {
	return slices.EqualFunc(a, b, func(a, b api.Entry) bool { return a.Key == b.Key && value.Same(a.Val, b.Val) })
}

// copied returns equal entries that share no memory with l.
func copied(l []api.Entry) []api.Entry {
	l = slices.Clone(l)
	for i := range l {
		l[i].Val = value.Clone(l[i].Val)
	}
	return l
}

// spoil changes all that entries have in memory of their own.
func spoil(l []api.Entry) {
	for i := range l {
		sample.Spoil(l[i].Val)
		l[i].Key += "x"
		l[i].Val.N++
	}
}

// texts returns the array of strings.
func texts(list ...string) api.Object {
	o := sample.Array()
	for _, s := range list {
		o.Kids = append(o.Kids, value.String(s))
	}
	return o
}

// numbered returns entries for keys, with the numbers from 1 on.
func numbered(keys ...string) []api.Entry {
	var l []api.Entry
	for i, key := range keys {
		l = append(l, api.Entry{Key: key, Val: value.Int(int64(i + 1))})
	}
	return l
}

// many returns so many entries, at most 100000.
func many(size int) []api.Entry {
	var l []api.Entry
	for i := range size {
		l = append(l, api.Entry{Key: strconv.Itoa(100000 + i)[1:], Val: value.Int(int64(i))})
	}
	return l
}

// leaf returns a node with the entries, and limits.
func leaf(l []api.Entry) api.Object {
	list := sample.Array()
	for _, e := range l {
		list.Kids = append(list.Kids, value.String(e.Key), e.Val)
	}
	if len(l) == 0 {
		return sample.Dict("Names", list)
	}
	return sample.Dict("Limits Names", texts(l[0].Key, l[len(l)-1].Key), list)
}

// inner returns a node with kids.
func inner(kids ...api.Object) api.Object { return sample.Dict("Kids", sample.Array(kids...)) }

// with returns a document with items from number 2 on.
func with(list ...api.Object) api.Doc {
	d := sample.Doc(1, item(1, sample.Dict("")))
	for i, o := range list {
		d.Items = append(d.Items, item(2+i, o))
	}
	return d
}

// Promise 37.3, by the example of the chapter.
func TestExample(t *testing.T) {
	l := numbered("a", "b", "c")
	d, root, e := names.Make(with(), l, 2)
	want := with(leaf(l[:2]), leaf(l[2:]), inner(ref(2), ref(3)))
	if !docs.Same(d, want) || !value.Same(root, ref(4)) || e != api.OK {
		t.Errorf("Make = %s, %v, %d", brief(d), root, e)
	}
	if o, e := names.Find(d, root, "bb"); o.Kind != api.KNull || e != api.ErrNone {
		t.Errorf(`Find for "bb" = %v, %d`, o, e)
	}
	if o, e := names.Find(d, root, "b"); !value.Same(o, value.Int(2)) || e != api.OK {
		t.Errorf(`Find for "b" = %v, %d`, o, e)
	}
}

// Promise 37.1: what is a node, and what is not.
func TestNodes(t *testing.T) {
	a := sample.Array(value.String("a"), value.Int(1))
	odd := sample.Array(value.String("a"), value.Int(1), value.String("b"))
	stream := api.Object{Kind: api.KStream, Keys: []string{"Names"}, Kids: []api.Object{a}}
	d := with(a, sample.Array(ref(4)), sample.Dict("Names", a), stream, odd, sample.Dict("Names", ref(2)), sample.Dict("Kids", ref(3)), value.String("a"))
	for i, c := range []struct {
		o    api.Object
		want api.Errno
	}{
		{sample.Dict("Names", a), api.OK}, {sample.Dict("Names", ref(2)), api.OK}, {ref(7), api.OK}, {ref(8), api.OK}, {inner(ref(4)), api.OK}, {inner(inner(), ref(8)), api.OK},
		{sample.Dict("Else Limits Names", odd, odd, a), api.OK}, {sample.Dict("Kids Limits", sample.Array(ref(4)), value.Int(1)), api.OK},
		{ref(99), api.ErrNone}, {sample.Ref(4, 1), api.ErrNone}, {value.Null(), api.ErrNone},
		{sample.Dict(""), api.ErrName}, {sample.Dict("Kids Names", sample.Array(), a), api.ErrName}, {sample.Dict("Kids Names", ref(99), a), api.ErrName}, {sample.Dict("Else", a), api.ErrName},
		{ref(5), api.ErrName}, {ref(2), api.ErrName}, {a, api.ErrName}, {value.Name("Names"), api.ErrName}, {ref(9), api.ErrName},
		{sample.Dict("Names", odd), api.ErrName}, {sample.Dict("Names", ref(6)), api.ErrName}, {sample.Dict("Names", ref(99)), api.ErrName}, {sample.Dict("Names", sample.Dict("")), api.ErrName}, {sample.Dict("Names", value.String("a")), api.ErrName},
		{sample.Dict("Names", sample.Array(value.Name("a"), value.Int(1))), api.ErrName}, {sample.Dict("Names", sample.Array(ref(9), value.Int(1))), api.ErrName}, {sample.Dict("Names", sample.Array(value.String("a"), value.Int(1), value.Null(), value.Int(1))), api.ErrName},
		{sample.Dict("Kids", ref(4)), api.ErrName}, {sample.Dict("Kids", ref(99)), api.ErrName}, {inner(value.Null(), ref(4)), api.ErrName}, {inner(ref(4), ref(99)), api.ErrName}, {inner(ref(4), ref(5)), api.ErrName}, {inner(inner(), sample.Array(ref(4))), api.ErrName},
	} {
		l, e := names.Read(d, c.o)
		if e != c.want || (e == api.OK) != sameEntries(l, numbered("a")) || e != api.OK && len(l) > 0 {
			t.Errorf("Read %d = %v, %d, want %d", i, l, e, c.want)
		}
	}
}

// Promise 37.1: values as they are stored, and keys in their order.
func TestReadKeys(t *testing.T) {
	values := []api.Entry{{Key: "", Val: value.Null()}, {Key: "\x00", Val: ref(1)}, {Key: "a", Val: ref(99)}, {Key: "\xff", Val: sample.Nest(ref(2), 20)}}
	if l, e := names.Read(with(leaf(values)), ref(2)); !sameEntries(l, values) || e != api.OK {
		t.Errorf("Read = %v, %d", l, e)
	}
	for i, c := range []struct {
		o    api.Object
		want api.Errno
	}{
		{leaf(numbered("a", "b", "c")), api.OK}, {inner(leaf(numbered("B")), leaf(numbered("a", "aa")), inner(), leaf(nil), inner(leaf(numbered("ab")))), api.OK},
		{leaf(numbered("a", "b", "b")), api.ErrName}, {leaf(numbered("b", "a")), api.ErrName}, {leaf(numbered("", "")), api.ErrName}, {leaf(numbered("a", "B")), api.ErrName}, {leaf(numbered("aa", "a")), api.ErrName},
		{inner(leaf(numbered("a")), leaf(numbered("a"))), api.ErrName}, {inner(leaf(numbered("a", "c")), leaf(numbered("b"))), api.ErrName}, {inner(inner(leaf(numbered("x"))), inner(), inner(leaf(numbered("")))), api.ErrName},
	} {
		if l, e := names.Read(with(), c.o); e != c.want || (e == api.OK) != (len(l) == 3) && i == 0 {
			t.Errorf("Read %d = %v, %d, want %d", i, l, e, c.want)
		}
	}
}

// nested returns a document in which item 2 begins a chain of so many nodes, the last of which has the object last as its kid or has the key a.
func nested(size int, last api.Object) api.Doc {
	d := with()
	for i := range size - 1 {
		d.Items = append(d.Items, item(2+i, sample.Dict("Kids Limits", sample.Array(ref(3+i)), texts("a", "a"))))
	}
	end := leaf(numbered("a"))
	if last.Kind != api.KNull {
		end = sample.Dict("Kids Limits", sample.Array(last), texts("a", "a"))
	}
	d.Items = append(d.Items, item(1+size, end))
	return d
}

// Promises 37.1 and 37.2: how deep the nodes of a tree may lie.
func TestDepth(t *testing.T) {
	for i, c := range []struct {
		d                api.Doc
		wantRead, wantFd api.Errno
	}{
		{nested(1, value.Null()), api.OK, api.OK},
		{nested(api.MaxDepth, value.Null()), api.OK, api.OK},
		{nested(api.MaxDepth+1, value.Null()), api.ErrDeep, api.ErrDeep},
		{nested(api.MaxDepth+9, value.Null()), api.ErrDeep, api.ErrDeep},
		{nested(api.MaxDepth, value.Int(7)), api.ErrDeep, api.ErrName},
		{nested(api.MaxDepth, sample.Dict("Limits", texts("a", "a"))), api.ErrDeep, api.ErrDeep},
		{nested(api.MaxDepth-1, sample.Dict("Limits", texts("a", "a"))), api.ErrName, api.ErrName},
		{nested(1, ref(2)), api.ErrDeep, api.ErrDeep},
		{nested(3, ref(3)), api.ErrDeep, api.ErrDeep},
	} {
		if l, e := names.Read(c.d, ref(2)); e != c.wantRead || (e == api.OK) != (len(l) == 1) {
			t.Errorf("Read %d = %v, %d, want %d", i, l, e, c.wantRead)
		}
		if o, e := names.Find(c.d, ref(2), "a"); e != c.wantFd || (e == api.OK) != value.Same(o, value.Int(1)) {
			t.Errorf("Find %d = %v, %d, want %d", i, o, e, c.wantFd)
		}
	}
}

// repeated returns the array of an object so many times.
func repeated(o api.Object, times int) api.Object {
	return sample.Array(slices.Repeat([]api.Object{o}, times)...)
}

// Promise 37.1: how many nodes and entries a tree may have.
func TestReadMany(t *testing.T) {
	// The last kid of the root begins a chain whose last node lies inside as many nodes as may be, and has one more kid.
	chain := func(leaves int) api.Doc {
		kids := repeated(ref(3), leaves)
		kids.Kids = append(kids.Kids, ref(4))
		d := with(sample.Dict("Kids", kids), leaf(nil))
		for num := 4; num < 2+api.MaxDepth; num++ {
			d.Items = append(d.Items, item(num, inner(ref(num+1))))
		}
		d.Items = append(d.Items, item(2+api.MaxDepth, inner(ref(3))))
		return d
	}
	// Two leaves can have 8190 entries between them, since the array of one has no more than 8191 elements.
	l := many(api.MaxKids + 1)
	full := func(rest ...api.Entry) api.Doc {
		return with(inner(ref(3), ref(4), ref(5)), leaf(l[:4095]), leaf(l[4095:8190]), leaf(rest))
	}
	for i, c := range []struct {
		d    api.Doc
		size int
		want api.Errno
	}{
		{with(sample.Dict("Kids", repeated(ref(3), api.MaxTree-1)), leaf(nil)), 0, api.OK},
		{with(sample.Dict("Kids", repeated(ref(3), api.MaxTree)), leaf(nil)), 0, api.ErrMany},
		{with(sample.Dict("Kids", repeated(ref(3), api.MaxKids)), leaf(nil)), 0, api.ErrMany},
		{with(inner(ref(3), ref(3), value.Int(1)), sample.Dict("Kids", repeated(ref(4), 2046)), leaf(nil)), 0, api.ErrName},
		{with(inner(ref(3), ref(3), leaf(nil), value.Int(1)), sample.Dict("Kids", repeated(ref(4), 2046)), leaf(nil)), 0, api.ErrMany},
		{with(inner(ref(3), ref(3), leaf(nil)), sample.Dict("Kids", repeated(ref(4), 2046)), leaf(nil)), 0, api.OK},
		{with(inner(ref(3), ref(3)), sample.Dict("Kids", repeated(ref(2), 2046))), 0, api.ErrDeep},
		{chain(api.MaxTree - 24), 0, api.ErrDeep},
		{chain(api.MaxTree - 23), 0, api.ErrMany},
		{full(l[8190:8191]...), api.MaxKids, api.OK},
		{full(l[8190:]...), 0, api.ErrMany},
		{full(l[8190], l[8190]), 0, api.ErrName},
		{full(l[8190], l[7]), 0, api.ErrName},
	} {
		if l, e := names.Read(c.d, ref(2)); e != c.want || len(l) != c.size {
			t.Errorf("Read %d has %d entries, %d, want %d", i, len(l), e, c.want)
		}
	}
}

// Promise 37.2: what Find looks at, and what it does not.
func TestFind(t *testing.T) {
	a, b := texts("a", "a"), texts("b", "b")
	one := sample.Array(value.String("a"), value.Int(1))
	limited := func(limits api.Object) api.Object { return sample.Dict("Limits Names", limits, one) }
	d := with(a, limited(a), texts("a", "c"), leaf(nil), sample.Dict("Limits", a))
	stream := api.Object{Kind: api.KStream, Keys: []string{"Limits", "Names"}, Kids: []api.Object{a, one}}
	far := api.Object{Kind: api.KStream, Keys: stream.Keys, Kids: []api.Object{b, one}}
	d.Items = append(d.Items, item(7, stream), api.Item{Num: 8, Gen: 5, Obj: limited(a)}, item(9, far))
	for i, c := range []struct {
		o    api.Object
		want api.Errno
	}{
		{sample.Dict("Names", one), api.OK}, {limited(b), api.OK}, {leaf(numbered("b", "a", "a")), api.OK}, {leaf(append(numbered("b"), numbered("a", "a", "b")...)), api.OK},
		{inner(limited(a)), api.OK}, {inner(limited(ref(2))), api.OK}, {inner(ref(3)), api.OK}, {inner(sample.Ref(8, 5)), api.OK}, {inner(limited(ref(4))), api.OK}, {inner(limited(texts("", "\xff"))), api.OK},
		{inner(limited(b), ref(3)), api.OK}, {inner(ref(3), ref(99)), api.OK}, {inner(ref(3), value.Int(1)), api.OK}, {inner(leaf(numbered("b")), limited(texts("", "a")), sample.Dict("Limits", a)), api.OK}, {inner(sample.Dict("Else Limits", a, b), limited(a)), api.OK},
		{inner(sample.Dict("Kids Limits", sample.Array(limited(b), limited(a)), texts("a", "b"))), api.OK},
		{sample.Dict("Names", sample.Array()), api.ErrNone}, {inner(), api.ErrNone}, {leaf(numbered("aa", "", "A")), api.ErrNone}, {inner(limited(b)), api.ErrNone}, {inner(limited(texts("aa", "z")), limited(texts("", "A"))), api.ErrNone}, {inner(limited(texts("b", "a"))), api.ErrNone},
		{inner(sample.Dict("Limits Names", a, sample.Array()), ref(3)), api.ErrNone}, {inner(sample.Dict("Kids Limits", sample.Array(), a), ref(3)), api.ErrNone},
		{ref(99), api.ErrNone}, {value.Null(), api.ErrNone}, {sample.Ref(8, 4), api.ErrNone},
		{sample.Dict("Names", sample.Array(value.String("a"), value.Int(1), value.Name("b"), value.Int(1))), api.ErrName}, {sample.Dict("Kids Names", sample.Array(), one), api.ErrName}, {a, api.ErrName}, {ref(7), api.ErrName}, {value.Name("a"), api.ErrName},
		{inner(ref(6)), api.ErrName}, {inner(sample.Dict("Kids Limits Names", sample.Array(), a, one)), api.ErrName}, {inner(sample.Dict("Limits Names", a, sample.Array(value.String("a")))), api.ErrName},
		{inner(ref(5), ref(3)), api.ErrName}, {inner(ref(99), ref(3)), api.ErrName}, {inner(ref(7)), api.ErrName}, {inner(sample.Ref(8, 4)), api.ErrName}, {inner(value.Null()), api.ErrName}, {inner(a), api.ErrName}, {inner(limited(b), one), api.ErrName},
		{inner(limited(texts("a"))), api.ErrName}, {inner(limited(texts("a", "a", "a"))), api.ErrName}, {inner(limited(sample.Array(value.Name("a"), value.String("a")))), api.ErrName}, {inner(limited(sample.Array(value.String("a"), value.Name("a")))), api.ErrName}, {inner(limited(ref(99))), api.ErrName}, {inner(limited(value.String("a"))), api.ErrName}, {inner(limited(sample.Dict("A B", a.Kids[0], a.Kids[0]))), api.ErrName}, {inner(sample.Dict("Else", a), ref(3)), api.ErrName}, {inner(ref(9), ref(3)), api.ErrName},
	} {
		o, e := names.Find(d, c.o, "a")
		n := int64(1)
		if i == 2 {
			n = 2
		}
		if e != c.want || e == api.OK && !value.Same(o, value.Int(n)) || e != api.OK && o.Kind != api.KNull {
			t.Errorf("Find %d = %v, %d, want %d", i, o, e, c.want)
		}
	}
	for _, key := range []string{"A", "aa", "a\x00", "b", "", strings.Repeat("a", api.MaxString+1)} {
		if o, e := names.Find(d, inner(limited(texts("", "\xff"))), key); o.Kind != api.KNull || e != api.ErrNone {
			t.Errorf("Find for %q = %v, %d", key, o, e)
		}
	}
	if o, e := names.Find(with(leaf([]api.Entry{{Key: "a", Val: ref(2)}})), ref(2), "a"); !value.Same(o, ref(2)) || e != api.OK {
		t.Errorf("Find of a reference = %v, %d", o, e)
	}
}

// Promises 37.1 to 37.3: a document that is invalid is reported first, and then an object that is.
func TestInvalid(t *testing.T) {
	for i, b := range sample.BadDocs() {
		for _, o := range []api.Object{ref(1), value.Null(), {Kind: 99}} {
			if l, e := names.Read(b.Is, o); e != b.Err || len(l) > 0 {
				t.Errorf("Read of document %d = %v, %d, want %d", i, l, e, b.Err)
			}
			if o, e := names.Find(b.Is, o, "a"); e != b.Err || o.Kind != 0 {
				t.Errorf("Find in document %d = %v, %d, want %d", i, o, e, b.Err)
			}
		}
		d, o, e := names.Make(b.Is, many(api.MaxKids+1), 1)
		if e != b.Err || len(d.Items) > 0 || d.Trailer.Kind != 0 || o.Kind != 0 {
			t.Errorf("Make in document %d = %s, %v, %d, want %d", i, brief(d), o, e, b.Err)
		}
	}
	for i, b := range sample.BadObjects() {
		if l, e := names.Read(with(), b.Is); e != b.Err || len(l) > 0 {
			t.Errorf("Read of object %d = %v, %d, want %d", i, l, e, b.Err)
		}
		if o, e := names.Find(with(), b.Is, "a"); e != b.Err || o.Kind != 0 {
			t.Errorf("Find in object %d = %v, %d, want %d", i, o, e, b.Err)
		}
	}
}

// Promise 37.3: the errors, in their order.
func TestMakeErrors(t *testing.T) {
	long := strings.Repeat("k", api.MaxString)
	stream, bad := api.Object{Kind: api.KStream, S: "s"}, api.Object{Kind: 99}
	entry := func(key string, o api.Object) api.Entry { return api.Entry{Key: key, Val: o} }
	fits := sample.Nest(value.Int(1), api.MaxDepth-3)
	full := sample.Doc(api.MaxNum, item(api.MaxNum, sample.Dict("")))
	room := func(n int) api.Doc { return sample.Doc(api.MaxNum-n, item(api.MaxNum-n, sample.Dict(""))) }
	for i, c := range []struct {
		d    api.Doc
		l    []api.Entry
		fan  int
		want api.Errno
	}{
		{with(), nil, 2, api.OK}, {with(), many(17), api.MaxFan, api.OK},
		{with(), nil, 1, api.ErrArg}, {with(), nil, 0, api.ErrArg}, {with(), nil, math.MinInt, api.ErrArg}, {with(), nil, api.MaxFan + 1, api.ErrArg}, {with(), nil, math.MaxInt, api.ErrArg}, {with(), many(api.MaxKids + 1), api.MaxFan + 1, api.ErrArg},
		{with(), many(api.MaxKids), api.MaxFan, api.OK}, {with(), many(api.MaxKids + 1), api.MaxFan, api.ErrMany}, {with(), append([]api.Entry{entry(long+"k", bad)}, many(api.MaxKids)...), 2, api.ErrMany},
		{with(), []api.Entry{entry(long, value.Int(1))}, 2, api.OK}, {with(), []api.Entry{entry(long+"k", bad)}, 2, api.ErrLong}, {with(), []api.Entry{entry("b", bad), entry(long+"k", stream)}, 2, api.ErrKind},
		{with(), []api.Entry{entry("b", stream)}, 2, api.ErrKind}, {with(), []api.Entry{entry("b", value.Int(1)), entry("a", stream)}, 2, api.ErrKind}, {with(), []api.Entry{entry("b", value.Int(1)), entry("a", sample.Wide(api.MaxKids+1))}, 2, api.ErrMany},
		{with(), numbered("b", "a"), 2, api.ErrArg}, {with(), numbered("a", "a"), 2, api.ErrArg}, {with(), append(numbered("b", "a"), entry("c", stream)), 2, api.ErrArg}, {with(), append(numbered("a"), entry("c", stream), entry("b", bad)), 2, api.ErrKind}, {with(), append(numbered("a", "b", "b"), entry(long+"k", bad)), 2, api.ErrArg},
		{with(), many(4097), 2, api.ErrMany}, {with(), many(4096), 2, api.OK}, {with(), many(8182), 3, api.ErrMany}, {with(), many(8181), 3, api.OK}, {with(), append(many(4096), entry("A", value.Int(1))), 2, api.ErrMany}, {with(), append(many(4097), entry("0", value.Int(1))), 2, api.ErrArg},
		{with(), []api.Entry{entry("a", fits)}, 2, api.OK}, {with(), []api.Entry{entry("a", sample.Array(fits))}, 2, api.ErrDeep}, {with(), []api.Entry{entry("a", sample.Array(sample.Array(sample.Array(fits))))}, 2, api.ErrDeep}, {with(), append(many(4096), entry("A", sample.Array(fits))), 2, api.ErrMany},
		{full, nil, 2, api.ErrFull}, {full, many(4097), 2, api.ErrMany}, {full, []api.Entry{entry("a", sample.Array(fits))}, 2, api.ErrFull}, {full, numbered("b", "a"), 2, api.ErrArg},
		{room(1), nil, 2, api.OK}, {room(1), many(3), 2, api.ErrFull}, {room(2), many(3), 2, api.ErrFull}, {room(3), many(3), 2, api.OK},
		{room(1), []api.Entry{entry("a", fits), entry("b", sample.Array(fits)), entry("c", fits)}, 2, api.ErrDeep}, {room(1), []api.Entry{entry("a", fits), entry("b", fits), entry("c", sample.Array(fits))}, 2, api.ErrFull},
	} {
		d, o, e := names.Make(c.d, c.l, c.fan)
		if e != c.want || (e == api.OK) != (len(d.Items) > len(c.d.Items)) || (e == api.OK) != (o.Kind == api.KRef) || e != api.OK && d.Trailer.Kind != 0 {
			t.Errorf("Make %d = %s, %v, %d, want %d", i, brief(d), o, e, c.want)
		}
	}
}

// Promise 37.3: how many nodes a tree has.
func TestMakeSizes(t *testing.T) {
	for size := range 40 {
		for fan := 2; fan <= api.MaxFan; fan++ {
			d, root, e := names.Make(with(), many(size), fan)
			want, wantRoot, wantErr := grow(with(), many(size), fan)
			if !docs.Same(d, want) || !value.Same(root, wantRoot) || e != wantErr {
				t.Errorf("Make of %d entries with fan %d = %s, %v, %d, want %s", size, fan, brief(d), root, e, brief(want))
			}
		}
	}
	for _, c := range []struct{ size, fan int }{{4096, 2}, {api.MaxKids, api.MaxFan}, {8191, 4}} {
		l := many(c.size)
		d, root, e := names.Make(with(), l, c.fan)
		if back, readErr := names.Read(d, root); !sameEntries(back, l) || readErr != api.OK || e != api.OK {
			t.Errorf("Make of %d entries = %d, and Read of them %d", c.size, e, readErr)
		}
		for i := 0; i < c.size; i += 97 {
			if o, e := names.Find(d, root, l[i].Key); !value.Same(o, l[i].Val) || e != api.OK {
				t.Errorf("Find for %q = %v, %d", l[i].Key, o, e)
			}
		}
	}
}

// Promise 37.4.
func TestSet(t *testing.T) {
	for i, c := range []struct {
		l    []api.Entry
		key  string
		want []string
	}{
		{nil, "", []string{"="}}, {nil, "a", []string{"a="}}, {numbered("a"), "a", []string{"a="}}, {numbered("a", "a"), "a", []string{"a=", "a2"}}, {numbered("b", "a", "c", "a"), "a", []string{"b1", "a=", "c3", "a4"}},
		{numbered("a", "c"), "b", []string{"a1", "b=", "c2"}}, {numbered("a", "c"), "", []string{"=", "a1", "c2"}}, {numbered("a", "c"), "d", []string{"a1", "c2", "d="}}, {numbered("c", "a", "d"), "b", []string{"b=", "c1", "a2", "d3"}}, {numbered("c", "a"), "d", []string{"c1", "a2", "d="}}, {numbered("a", "\xff", "b"), "a\x00", []string{"a1", "a\x00=", "\xff2", "b3"}},
	} {
		was := copied(c.l)
		v := sample.Array(ref(7), sample.Dict("A", ref(8)))
		got := names.Set(c.l, c.key, v)
		var show []string
		for _, e := range got {
			mark := "="
			if !value.Same(e.Val, v) {
				mark = strconv.Itoa(int(e.Val.N))
			}
			show = append(show, e.Key+mark)
		}
		if !slices.Equal(show, c.want) {
			t.Errorf("Set %d = %q, want %q", i, show, c.want)
		}
		spoil(got)
		if !sameEntries(c.l, was) || !value.Same(v, sample.Array(ref(7), sample.Dict("A", ref(8)))) {
			t.Errorf("Set %d shares memory", i)
		}
	}
	for _, o := range []api.Object{{Kind: 99}, {Kind: api.KStream, S: "s"}, {}} {
		if l := names.Set(numbered("a"), "b", o); len(l) != 2 || !value.Same(l[1].Val, o) {
			t.Errorf("Set of %v = %v", o, l)
		}
	}
}

// Promise 37.4.
func TestDrop(t *testing.T) {
	for i, c := range []struct {
		l    []api.Entry
		key  string
		want []api.Entry
		err  api.Errno
	}{
		{nil, "a", nil, api.ErrNone}, {numbered("a", "b"), "c", nil, api.ErrNone}, {numbered("a", "b"), "", nil, api.ErrNone}, {numbered("a", "b"), "A", nil, api.ErrNone},
		{numbered("a"), "a", nil, api.OK}, {numbered("a", "b", "c"), "a", numbered("", "b", "c")[1:], api.OK}, {numbered("a", "b", "c"), "c", numbered("a", "b"), api.OK}, {numbered("a", "b", "a"), "a", numbered("", "b", "a")[1:], api.OK}, {numbered("", "b"), "", numbered("", "b")[1:], api.OK},
	} {
		was := copied(c.l)
		got, e := names.Drop(c.l, c.key)
		if !sameEntries(got, c.want) || e != c.err {
			t.Errorf("Drop %d = %v, %d, want %v, %d", i, got, e, c.want, c.err)
		}
		spoil(got)
		if !sameEntries(c.l, was) {
			t.Errorf("Drop %d shares memory", i)
		}
	}
	deep := []api.Entry{{Key: "a", Val: sample.Array(ref(1))}, {Key: "b", Val: sample.Array(ref(2))}}
	got, _ := names.Drop(deep, "a")
	spoil(got)
	if !value.Same(deep[1].Val, sample.Array(ref(2))) {
		t.Error("Drop shares memory with a value")
	}
	got = names.Set(deep, "a", value.Null())
	spoil(got)
	if !value.Same(deep[1].Val, sample.Array(ref(2))) {
		t.Error("Set shares memory with a value")
	}
}

// Promise 37.6.
func TestSetAndDropKeepTheOrder(t *testing.T) {
	increasing := func(l []api.Entry) bool {
		return slices.IsSortedFunc(l, func(a, b api.Entry) int {
			if a.Key < b.Key {
				return -1
			}
			return 1
		})
	}
	has := func(l []api.Entry, key string) bool {
		return slices.ContainsFunc(l, func(e api.Entry) bool { return e.Key == key })
	}
	keys := sample.Keys()
	for mask := range 1 << len(keys) {
		var l []api.Entry
		for i, key := range keys {
			if mask>>i&1 == 1 {
				l = append(l, api.Entry{Key: key})
			}
		}
		key := keys[mask*7%len(keys)]
		set := names.Set(l, key, value.Int(7))
		if !increasing(set) || !has(set, key) {
			t.Errorf("Set of %q in %v = %v", key, l, set)
		}
		if dropped, e := names.Drop(set, key); !increasing(dropped) || has(dropped, key) || e != api.OK {
			t.Errorf("Drop of %q in %v = %v, %d", key, set, dropped, e)
		}
	}
}
