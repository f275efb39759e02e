package value_test

import (
	"math"
	"reflect"
	"slices"
	"strings"
	"testing"

	"foliant/api"
	"foliant/sample"
	"foliant/value"
)

// every is a list of valid objects of all kinds, and of some that are not valid.
func every() []api.Object {
	list := append(sample.Objects(), sample.Streams()...)
	return append(list,
		api.Object{Kind: 99, N: 5, G: 6, S: "s", Keys: []string{"B", "A"}, Kids: []api.Object{{Kind: -1}}},
		api.Object{Kind: api.KDict, Keys: []string{"A", "B", "A"}, Kids: []api.Object{{Kind: api.KInt, N: 3}}},
		api.Object{Kind: api.KInt, Kids: []api.Object{{Kind: api.KRef, N: 9, G: 1}}},
		api.Object{Kind: api.KRef, N: 4, Kids: []api.Object{{Kind: api.KRef, N: 3}}},
		sample.Nest(sample.Nest(value.Int(1), 300), 300),
	)
}

// Promise 5.1.
func TestCheckAccepts(t *testing.T) {
	for i, o := range append(sample.Objects(), sample.Streams()...) {
		if e := value.Check(o); e != api.OK {
			t.Errorf("Check of object %d = %d", i, e)
		}
	}
	long := api.Object{Kind: api.KStream, S: strings.Repeat("d", api.MaxData)}
	if e := value.Check(long); e != api.OK {
		t.Errorf("Check of a long stream = %d", e)
	}
}

type checkCase struct {
	o    api.Object
	want api.Errno
}

// wrongLeaves are objects without kids that are wrong in one way each.
func wrongLeaves() []checkCase {
	type o = api.Object
	return []checkCase{
		{o{Kind: -1}, api.ErrKind}, {o{Kind: 10}, api.ErrKind}, {o{Kind: math.MaxInt}, api.ErrKind},
		{o{Kind: api.KBool, N: 2}, api.ErrRange}, {o{Kind: api.KBool, N: -1}, api.ErrRange},
		{o{Kind: api.KInt, N: api.MaxInt + 1}, api.ErrRange}, {o{Kind: api.KInt, N: -api.MaxInt - 1}, api.ErrRange},
		{o{Kind: api.KInt, N: math.MinInt64}, api.ErrRange},
		{o{Kind: api.KReal, N: api.MaxFix + 1}, api.ErrRange}, {o{Kind: api.KReal, N: -api.MaxFix - 1}, api.ErrRange},
		{o{Kind: api.KRef, N: 0}, api.ErrRange}, {o{Kind: api.KRef, N: -1}, api.ErrRange}, {o{Kind: api.KRef, N: api.MaxNum + 1}, api.ErrRange},
		{o{Kind: api.KRef, N: 1, G: -1}, api.ErrRange}, {o{Kind: api.KRef, N: 1, G: api.MaxGen + 1}, api.ErrRange},
		{o{Kind: api.KString, S: strings.Repeat("s", api.MaxString+1)}, api.ErrLong},
		{o{Kind: api.KName, S: strings.Repeat("s", api.MaxName+1)}, api.ErrLong},
		{o{Kind: api.KName, S: strings.Repeat("\x00", api.MaxName+1)}, api.ErrLong},
		{o{Kind: api.KName, S: "a\x00"}, api.ErrForm},
	}
}

// wrongBranches are objects with kids, and streams, that are wrong in one way each.
func wrongBranches() []checkCase {
	type o = api.Object
	one, two := sample.Wide(1).Kids, sample.Wide(2).Kids
	list := []checkCase{{sample.Wide(api.MaxKids + 1), api.ErrMany}}
	for _, kind := range []int{api.KDict, api.KStream} {
		broad := sample.Broad(api.MaxKids + 1)
		broad.Kind = kind
		list = append(list, checkCase{broad, api.ErrMany},
			checkCase{o{Kind: kind, Keys: []string{"A", "B"}, Kids: one}, api.ErrForm},
			checkCase{o{Kind: kind, Keys: []string{"A"}, Kids: two}, api.ErrForm},
			checkCase{o{Kind: kind, Keys: []string{"A"}}, api.ErrForm},
			checkCase{o{Kind: kind, Kids: one}, api.ErrForm},
			checkCase{o{Kind: kind, Keys: []string{"B", "A"}, Kids: two}, api.ErrForm},
			checkCase{o{Kind: kind, Keys: []string{"A", "A"}, Kids: two}, api.ErrForm},
			checkCase{o{Kind: kind, Keys: []string{"a", "B"}, Kids: two}, api.ErrForm},
			checkCase{o{Kind: kind, Keys: []string{"A\x00"}, Kids: one}, api.ErrForm},
			checkCase{o{Kind: kind, Keys: []string{strings.Repeat("k", api.MaxName+1)}, Kids: one}, api.ErrForm},
			checkCase{o{Kind: kind, Keys: []string{"A", "B"}, Kids: []o{{Kind: api.KInt}, {}}}, api.ErrForm},
			checkCase{o{Kind: kind, Keys: slices.Repeat([]string{"K"}, api.MaxKids+1)}, api.ErrForm})
	}
	return append(list,
		checkCase{o{Kind: api.KStream, Keys: []string{"Length"}, Kids: one}, api.ErrForm},
		checkCase{o{Kind: api.KStream, Keys: []string{"A", "Length"}, Kids: two}, api.ErrForm},
		checkCase{o{Kind: api.KDict, Keys: []string{"Length"}, Kids: one}, api.OK},
		checkCase{sample.Array(o{Kind: api.KStream}), api.ErrKind},
		checkCase{sample.Nest(value.Null(), 2), api.OK},
		checkCase{sample.Array(value.Null()), api.OK})
}

// Promise 5.1.
func TestCheckFinds(t *testing.T) {
	for i, c := range append(wrongLeaves(), wrongBranches()...) {
		if e := value.Check(c.o); e != c.want {
			t.Errorf("Check of case %d = %d, want %d", i, e, c.want)
		}
		if len(c.o.Kids) > 9 || c.o.Kind == api.KStream {
			continue
		}
		for _, o := range []api.Object{sample.Array(c.o), sample.Dict("A B", value.Int(1), c.o), sample.Nest(c.o, 20)} {
			if e := value.Check(o); e != c.want {
				t.Errorf("Check of case %d inside an object = %d, want %d", i, e, c.want)
			}
		}
	}
	if e := value.Check(api.Object{Kind: api.KStream, S: strings.Repeat("d", api.MaxData+1)}); e != api.ErrLong {
		t.Errorf("Check of a stream that is too long = %d", e)
	}
}

// unused returns, for each kind, which of the fields N, G, S, Keys and Kids it does not use.
func unused() map[int]string {
	return map[int]string{
		api.KNull: "NGSKk", api.KBool: "GSKk", api.KInt: "GSKk", api.KReal: "GSKk", api.KString: "NGKk", api.KName: "NGKk",
		api.KArray: "NGSK", api.KDict: "NGS", api.KRef: "SKk", api.KStream: "NG",
	}
}

// Promise 5.1.
func TestCheckUnusedFields(t *testing.T) {
	for kind, fields := range unused() {
		for _, f := range "NGSKk" {
			o := api.Object{Kind: kind}
			if kind == api.KRef {
				o.N = 1
			}
			switch f {
			case 'N':
				o.N = 1
			case 'G':
				o.G = 1
			case 'S':
				o.S = "s"
			case 'K':
				o.Keys = []string{"A"}
			case 'k':
				o.Kids = sample.Wide(1).Kids
			}
			want := api.OK
			if strings.ContainsRune(fields, f) {
				want = api.ErrKind
			} else if f == 'K' || f == 'k' && kind != api.KArray {
				want = api.ErrForm
			}
			if e := value.Check(o); e != want {
				t.Errorf("Check of kind %d with field %c = %d, want %d", kind, f, e, want)
			}
		}
	}
	for _, f := range []api.Object{{Kind: api.KInt, G: -1}, {Kind: api.KString, N: -1}} {
		if e := value.Check(f); e != api.ErrKind {
			t.Errorf("Check of a negative unused field = %d", e)
		}
	}
	if e := value.Check(api.Object{Keys: []string{}, Kids: []api.Object{}}); e != api.OK {
		t.Errorf("Check of a null with empty slices = %d", e)
	}
}

// Promise 5.1: the order of the errors of one object, and of the objects in one.
func TestCheckOrder(t *testing.T) {
	type o = api.Object
	deep := sample.Nest(value.Int(1), api.MaxDepth)
	wrongKind, wrongRange := o{Kind: 10}, o{Kind: api.KBool, N: 2}
	longName := strings.Repeat("\x00", api.MaxName+1)
	for i, c := range []checkCase{
		{deep, api.ErrDeep},
		{sample.Nest(wrongKind, api.MaxDepth), api.ErrDeep},
		{sample.Nest(wrongKind, api.MaxDepth-1), api.ErrKind},
		{sample.Array(deep, wrongKind), api.ErrDeep},
		{sample.Array(wrongKind, deep), api.ErrKind},
		{sample.Array(wrongRange, wrongKind), api.ErrRange},
		{o{Kind: api.KArray, N: 1, Kids: []o{deep}}, api.ErrKind},
		{o{Kind: api.KBool, N: 2, G: 1}, api.ErrKind},
		{o{Kind: api.KRef, N: 0, S: "s"}, api.ErrKind},
		{o{Kind: api.KName, S: longName, G: 1}, api.ErrKind},
		{o{Kind: api.KName, S: longName}, api.ErrLong},
		{sample.Array(o{Kind: api.KStream, S: strings.Repeat("d", api.MaxData+1)}), api.ErrKind},
		{sample.Array(o{Kind: api.KStream, Keys: []string{"A"}}), api.ErrKind},
		{o{Kind: api.KStream, S: strings.Repeat("d", api.MaxData+1), Keys: []string{"A"}}, api.ErrLong},
		{o{Kind: api.KStream, S: strings.Repeat("d", api.MaxData+1), Kids: sample.Wide(api.MaxKids + 1).Kids}, api.ErrLong},
		{o{Kind: api.KDict, Kids: sample.Wide(api.MaxKids + 1).Kids}, api.ErrMany},
		{o{Kind: api.KDict, Keys: []string{"B", "A"}, Kids: []o{wrongKind, wrongKind}}, api.ErrForm},
		{o{Kind: api.KArray, Kids: slices.Repeat([]o{wrongKind}, api.MaxKids+1)}, api.ErrMany},
		{sample.Dict("A B", sample.Array(wrongRange), o{}), api.ErrForm},
		{sample.Dict("A B", sample.Array(wrongRange), wrongKind), api.ErrRange},
		{o{Kind: api.KStream, Keys: []string{"A"}, Kids: []o{wrongRange}}, api.ErrRange},
	} {
		if e := value.Check(c.o); e != c.want {
			t.Errorf("Check of case %d = %d, want %d", i, e, c.want)
		}
	}
}

// Promise 5.1.
func TestSame(t *testing.T) {
	list := every()
	for i, a := range list {
		for k, b := range list[max(i-40, 0):min(i+40, len(list))] {
			// The samples have no empty slices where they could have none.
			want := reflect.DeepEqual(a, b)
			if value.Same(a, b) != want {
				t.Errorf("Same of %d and %d near it is not %t", i, k, want)
			}
		}
	}
	a := api.Object{Kind: api.KArray, N: 1, G: 2, S: "s", Keys: []string{"A"}, Kids: []api.Object{{Kind: 3, Kids: []api.Object{{S: "x"}}}}}
	for i, change := range []func(b *api.Object){
		func(b *api.Object) { b.Kind++ },
		func(b *api.Object) { b.N++ },
		func(b *api.Object) { b.G++ },
		func(b *api.Object) { b.S += " " },
		func(b *api.Object) { b.Keys = []string{"B"} },
		func(b *api.Object) { b.Keys = append(b.Keys, "B") },
		func(b *api.Object) { b.Keys = nil },
		func(b *api.Object) { b.Kids = append(b.Kids, api.Object{}) },
		func(b *api.Object) { b.Kids = nil },
		func(b *api.Object) { b.Kids[0].Kids[0].S = "y" },
	} {
		b := value.Clone(a)
		if !value.Same(a, b) {
			t.Errorf("a clone is not the same")
		}
		change(&b)
		if value.Same(a, b) || value.Same(b, a) {
			t.Errorf("Same does not see change %d", i)
		}
	}
	if !value.Same(api.Object{}, api.Object{Keys: []string{}, Kids: []api.Object{}}) {
		t.Errorf("empty slices are not the same as none")
	}
}

// Promise 5.1.
func TestDepth(t *testing.T) {
	for _, o := range sample.Leaves() {
		for _, levels := range []int{0, 1, 2, api.MaxDepth, 1000} {
			if d := value.Depth(sample.Nest(o, levels)); d != levels+1 {
				t.Errorf("Depth of %d levels = %d", levels, d)
			}
		}
	}
	leaf := value.Int(1)
	for _, o := range []api.Object{
		sample.Array(sample.Nest(leaf, 2), sample.Nest(leaf, 5), sample.Nest(leaf, 3)),
		{Kind: 77, Kids: []api.Object{sample.Nest(leaf, 5), leaf}},
	} {
		if d := value.Depth(o); d != 7 {
			t.Errorf("Depth = %d, want 7", d)
		}
	}
}

// spoil changes all memory of o that a copy could share.
func spoil(o api.Object) {
	for i := range o.Keys {
		o.Keys[i] += "!"
	}
	for i := range o.Kids {
		spoil(o.Kids[i])
		o.Kids[i] = api.Object{Kind: 50}
	}
}

// Promise 5.1, and the rule about aliasing.
func TestClone(t *testing.T) {
	again := every()
	for i, o := range every() {
		c := value.Clone(o)
		if !value.Same(c, o) || !value.Same(o, again[i]) {
			t.Errorf("Clone of object %d is another", i)
		}
		spoil(o)
		if !value.Same(c, again[i]) {
			t.Errorf("Clone of object %d shares memory", i)
		}
	}
}

// Promise 5.2.
func TestMakers(t *testing.T) {
	for _, c := range []struct{ got, want api.Object }{
		{value.Null(), api.Object{}},
		{value.Bool(true), api.Object{Kind: 1, N: 1}},
		{value.Bool(false), api.Object{Kind: 1}},
		{value.Int(math.MinInt64), api.Object{Kind: 2, N: math.MinInt64}},
		{value.Int(5), api.Object{Kind: 2, N: 5}},
		{value.Real(math.MaxInt64), api.Object{Kind: 3, N: math.MaxInt64}},
		{value.Real(-25), api.Object{Kind: 3, N: -25}},
		{value.String("a\x00"), api.Object{Kind: 4, S: "a\x00"}},
		{value.String(strings.Repeat("s", 40000)), api.Object{Kind: 4, S: strings.Repeat("s", 40000)}},
		{value.Name("a\x00"), api.Object{Kind: 5, S: "a\x00"}},
		{value.Ref(0, -1), api.Object{Kind: 8, G: -1}},
		{value.Ref(7, 3), api.Object{Kind: 8, N: 7, G: 3}},
		{value.Array(), api.Object{Kind: 6}},
		{value.Array(value.Int(1), api.Object{Kind: 99}), api.Object{Kind: 6, Kids: []api.Object{{Kind: 2, N: 1}, {Kind: 99}}}},
	} {
		if !value.Same(c.got, c.want) {
			t.Errorf("made %v, want %v", c.got, c.want)
		}
	}
	kids := []api.Object{sample.Nest(value.Int(1), 4)}
	o := value.Array(kids...)
	spoil(sample.Array(kids...))
	if !value.Same(o, sample.Array(sample.Nest(value.Int(1), 4))) {
		t.Errorf("Array shares memory with its kids")
	}
}

// A number of units is an integer if it is whole.
func TestUnits(t *testing.T) {
	for n, want := range map[int64]api.Object{0: value.Int(0), 1: value.Real(1), -1: value.Real(-1), 10000: value.Int(1), -30000: value.Int(-3), 29999: value.Real(29999), api.MaxFix: value.Real(api.MaxFix), 1073740000: value.Int(107374)} {
		o := value.Units(n)
		if back, ok := value.Number(o); !value.Same(o, want) || back != n || !ok {
			t.Errorf("Units(%d) = %v, want %v", n, o, want)
		}
	}
}
