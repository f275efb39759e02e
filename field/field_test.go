package field_test

import (
	"fmt"
	"math"
	"slices"
	"strings"
	"testing"
	"time"

	"foliant/api"
	"foliant/catalog"
	"foliant/docs"
	"foliant/field"
	"foliant/sample"
	"foliant/value"
)

// brief shows the beginning of anything.
func brief(x any) string { return fmt.Sprintf("%.700s", fmt.Sprintf("%q", fmt.Sprint(x))) }

// ref returns a reference of generation 0.
func ref(num int) api.Object { return sample.Ref(num, 0) }

// refs returns the array of references to numbers.
func refs(nums ...int) api.Object {
	o := sample.Array()
	for _, num := range nums {
		o.Kids = append(o.Kids, ref(num))
	}
	return o
}

// entries are those of a dictionary.
type entries map[string]api.Object

// dict returns the dictionary of entries, without those that are null.
func dict(e entries) api.Object { return sample.Entries(e) }

// name returns a name.
func name(s string) api.Object { return value.Name(s) }

// text returns a string.
func text(s string) api.Object { return value.String(s) }

// with returns a dictionary with another entry, or without it if that is null.
func with(o api.Object, key string, v api.Object) api.Object {
	o, e := value.Set(o, key, v)
	if e != api.OK {
		panic(e)
	}
	return o
}

// formed returns a document of two pages, 3 and 4, with a value of AcroForm, unless it is null, and more items from number 5 on.
func formed(form api.Object, list ...api.Object) api.Doc {
	d, _ := catalog.New(2)
	d.Items[0].Obj = with(d.Items[0].Obj, "AcroForm", form)
	for i, o := range list {
		d.Items = append(d.Items, api.Item{Num: 5 + i, Obj: o})
	}
	return d
}

// fields returns a document of two pages whose form has the fields that are the items 5 and so on up to so many, and more items after them.
func fields(count int, list ...api.Object) api.Doc {
	var nums []int
	for i := range count {
		nums = append(nums, 5+i)
	}
	return formed(dict(entries{"Fields": refs(nums...)}), list...)
}

// plain returns the dictionary of a text field that is called a, with other entries.
func plain(more entries) api.Object {
	all := entries{"T": text("a"), "FT": name("Tx")}
	for key, o := range more {
		all[key] = o
	}
	return dict(all)
}

// Promises 52.1 and 52.3, by the example of the chapter.
func TestExample(t *testing.T) {
	d := fields(1, dict(entries{"T": text("a"), "FT": name("Tx"), "Kids": refs(6, 7)}), dict(entries{"T": text("b")}), dict(entries{"T": text("c")}))
	want := []api.Field{{Name: "a.b", Kind: api.FieldText, Shows: []int{6}}, {Name: "a.c", Kind: api.FieldText, Shows: []int{7}}}
	if l, e := field.Read(d); !sameFields(l, want) || e != api.OK {
		t.Errorf("Read = %v, %d, want %v", l, e, want)
	}
	got, e := field.Set(d, "a.b", "x")
	want[0].Value = "x"
	if l, readErr := field.Read(got); !sameFields(l, want) || e != api.OK || readErr != api.OK {
		t.Errorf("after Set: %v, %d, %d, want %v", l, e, readErr, want)
	}
	if !value.Same(got.Items[5].Obj, dict(entries{"T": text("b"), "V": text("x")})) || !value.Same(got.Items[6].Obj, d.Items[6].Obj) {
		t.Errorf("Set has made %v", got)
	}
}

// Promise 52.1: fields of all forms.
func TestRead(t *testing.T) {
	a := api.Field{Name: "a", Kind: api.FieldText, Shows: []int{5}}
	change := func(f func(a *api.Field)) []api.Field { b := a; f(&b); return []api.Field{b} }
	one := func(more entries, list ...api.Object) api.Doc {
		return fields(1, append([]api.Object{plain(more)}, list...)...)
	}
	long := strings.Repeat("l", api.MaxString)
	for i, c := range []struct {
		d    api.Doc
		want []api.Field
	}{
		{formed(value.Null()), nil}, {formed(ref(99)), nil}, {formed(ref(5), value.Null()), nil}, {formed(sample.Dict("")), nil}, {formed(dict(entries{"Fields": sample.Array()})), nil}, {formed(dict(entries{"Fields": ref(99)})), nil}, {formed(dict(entries{"Fields": ref(5)}), value.Null()), nil},
		{one(nil), []api.Field{a}}, {formed(ref(6), plain(nil), dict(entries{"Fields": ref(7)}), refs(5)), []api.Field{a}}, {one(entries{"T": ref(6), "FT": ref(7)}, text("a"), name("Tx")), []api.Field{a}},
		// The name.
		{one(entries{"T": value.Null()}), change(func(a *api.Field) { a.Name = "" })}, {one(entries{"T": ref(99)}), change(func(a *api.Field) { a.Name = "" })}, {one(entries{"T": text("")}), change(func(a *api.Field) { a.Name = "" })}, {one(entries{"T": text("x.y")}), change(func(a *api.Field) { a.Name = "x.y" })}, {one(entries{"T": text(long)}), change(func(a *api.Field) { a.Name = long })},
		// The kind.
		{one(entries{"FT": name("Btn")}), change(func(a *api.Field) { a.Kind = api.FieldCheck })}, {one(entries{"FT": name("Ch")}), change(func(a *api.Field) { a.Kind = api.FieldChoice })},
		// The value and the flags.
		{one(entries{"V": text("v")}), change(func(a *api.Field) { a.Value = "v" })}, {one(entries{"V": name("v")}), change(func(a *api.Field) { a.Value = "v" })}, {one(entries{"V": ref(6)}, text(long)), change(func(a *api.Field) { a.Value = long })}, {one(entries{"V": ref(99)}), []api.Field{a}}, {one(entries{"Ff": value.Int(3)}), change(func(a *api.Field) { a.Flags = 3 })}, {one(entries{"Ff": ref(6)}, value.Int(-api.MaxInt)), change(func(a *api.Field) { a.Flags = -api.MaxInt })}, {one(entries{"Ff": ref(99)}), []api.Field{a}},
		// The choices, which only a field of that kind has.
		{one(entries{"FT": name("Ch"), "Opt": sample.Array(text("x"), text(""), text("x"))}), change(func(a *api.Field) { a.Kind, a.Choices = api.FieldChoice, []string{"x", "", "x"} })}, {one(entries{"FT": name("Ch"), "Opt": ref(6)}, sample.Array(text("x"))), change(func(a *api.Field) { a.Kind, a.Choices = api.FieldChoice, []string{"x"} })}, {one(entries{"FT": name("Ch"), "Opt": sample.Array()}), change(func(a *api.Field) { a.Kind = api.FieldChoice })}, {one(entries{"FT": name("Ch"), "Opt": ref(99)}), change(func(a *api.Field) { a.Kind = api.FieldChoice })}, {one(entries{"Opt": sample.Array(text("x"))}), []api.Field{a}}, {one(entries{"Opt": value.Int(1)}), []api.Field{a}}, {one(entries{"FT": name("Btn"), "Opt": sample.Array(name("x"))}), change(func(a *api.Field) { a.Kind = api.FieldCheck })},
		// What shows it.
		{one(entries{"Kids": refs(6, 7, 6)}, sample.Dict(""), plain(entries{"T": value.Null(), "V": value.Int(1)})), change(func(a *api.Field) { a.Shows = []int{6, 7, 6} })}, {one(entries{"Kids": ref(6)}, refs(3)), change(func(a *api.Field) { a.Shows = []int{3} })}, {one(entries{"Kids": ref(99)}), []api.Field{a}}, {one(entries{"Kids": sample.Array()}), change(func(a *api.Field) { a.Shows = nil })}, {one(entries{"Kids": refs(6)}, plain(entries{"T": ref(99)})), change(func(a *api.Field) { a.Shows = []int{6} })},
		// Its number may be that of the form, or of a page.
		{formed(ref(5), plain(entries{"Fields": refs(5)})), []api.Field{a}},
	} {
		was := sample.Copy(c.d)
		if l, e := field.Read(c.d); !sameFields(l, c.want) || e != api.OK || !docs.Same(c.d, was) {
			t.Errorf("Read %d = %s, %d, want %s", i, brief(l), e, brief(c.want))
		}
	}
}

// Promise 52.1: internal nodes, and what is inherited from them.
func TestInternalNodes(t *testing.T) {
	inner := func(more entries, kids ...int) api.Object {
		all := entries{"Kids": refs(kids...)}
		for key, o := range more {
			all[key] = o
		}
		return dict(all)
	}
	titled := func(s string, more entries) api.Object {
		all := entries{"T": text(s)}
		for key, o := range more {
			all[key] = o
		}
		return dict(all)
	}
	text1, check1 := entries{"T": text("i"), "FT": name("Tx"), "V": text("v"), "Ff": value.Int(2)}, name("Btn")
	for i, c := range []struct {
		d    api.Doc
		want []api.Field
	}{
		{fields(1, inner(text1, 6), titled("a", nil)), []api.Field{{Name: "i.a", Kind: 1, Value: "v", Flags: 2, Shows: []int{6}}}},
		{fields(1, inner(text1, 6), titled("a", entries{"FT": check1, "V": name("Yes"), "Ff": value.Int(0)})), []api.Field{{Name: "i.a", Kind: 2, Value: "Yes", Shows: []int{6}}}},
		{fields(1, inner(text1, 6), titled("a", entries{"FT": ref(99), "V": ref(99), "Ff": ref(99)})), []api.Field{{Name: "i.a", Kind: 1, Value: "v", Flags: 2, Shows: []int{6}}}},
		// The nearest node that has it.
		{fields(1, inner(text1, 6), inner(entries{"T": text("j"), "V": text("w")}, 7), titled("a", nil)), []api.Field{{Name: "i.j.a", Kind: 1, Value: "w", Flags: 2, Shows: []int{7}}}},
		// Choices are not inherited.
		{fields(1, inner(entries{"T": text("i"), "FT": name("Ch"), "Opt": sample.Array(text("x"))}, 6), titled("a", nil)), []api.Field{{Name: "i.a", Kind: 3, Shows: []int{6}}}},
		// Names with parts that are missing or empty.
		{fields(1, inner(entries{"FT": name("Tx")}, 6), titled("a", nil)), []api.Field{{Name: "a", Kind: 1, Shows: []int{6}}}},
		{fields(1, inner(text1, 6, 7), titled("a", nil), sample.Dict("")), []api.Field{{Name: "i.a", Kind: 1, Value: "v", Flags: 2, Shows: []int{6}}, {Name: "i", Kind: 1, Value: "v", Flags: 2, Shows: []int{7}}}},
		{fields(1, inner(entries{"T": text(""), "FT": name("Tx")}, 6, 7), titled("a", nil), titled("", nil)), []api.Field{{Name: "a", Kind: 1, Shows: []int{6}}, {Name: "", Kind: 1, Shows: []int{7}}}},
		{fields(1, inner(text1, 6), inner(nil, 7), titled("a", nil)), nil},
		{fields(1, inner(text1, 6, 8), inner(nil, 7), titled("a", nil), titled("", nil)), []api.Field{{Name: "i.a", Kind: 1, Value: "v", Flags: 2, Shows: []int{7}}, {Name: "i.", Kind: 1, Value: "v", Flags: 2, Shows: []int{8}}}},
		// One kid with a name makes a node internal, whatever else is among them, and one without is a field then.
		{fields(2, inner(text1, 7, 8), plain(nil), inner(entries{"FT": check1}, 3), inner(entries{"T": text("c")}, 9, 10), titled("d", nil), titled("e", nil)), []api.Field{{Name: "i", Kind: 2, Value: "v", Flags: 2, Shows: []int{3}}, {Name: "i.c.d", Kind: 1, Value: "v", Flags: 2, Shows: []int{9}}, {Name: "i.c.e", Kind: 1, Value: "v", Flags: 2, Shows: []int{10}}, {Name: "a", Kind: 1, Shows: []int{6}}}},
		// What internal nodes have themselves doesn't matter unless it is inherited.
		{fields(1, inner(entries{"FT": value.Int(1), "V": value.Int(1), "Ff": name("x"), "Opt": value.Int(1)}, 6), plain(entries{"V": text(""), "Ff": value.Int(1)})), []api.Field{{Name: "a", Kind: 1, Flags: 1, Shows: []int{6}}}},
	} {
		if c.want == nil {
			// The only kid has no name, so that it is a widget, and what it has as kids is not looked at.
			c.want = []api.Field{{Name: "i", Kind: 1, Value: "v", Flags: 2, Shows: []int{6}}}
		}
		if l, e := field.Read(c.d); !sameFields(l, c.want) || e != api.OK {
			t.Errorf("Read %d = %v, %d, want %v", i, l, e, c.want)
		}
	}
}

// fails checks that a form has an error, which Set and Add return too.
func fails(t *testing.T, what string, d api.Doc, want api.Errno) {
	t.Helper()
	if l, e := field.Read(d); len(l) > 0 || e != want {
		t.Errorf("Read of %s = %s, %d, want %d", what, brief(l), e, want)
	}
	for _, title := range []string{"", "a", "nobody"} {
		if got, e := field.Set(d, title, strings.Repeat("v", api.MaxText+1)); !docs.Same(got, api.Doc{}) || e != want {
			t.Errorf("Set in %s = %s, %d, want %d", what, brief(got), e, want)
		}
	}
	for _, f := range []api.Field{{}, {Name: "new", Kind: api.FieldText}} {
		if got, e := field.Add(d, -1, f, api.Rect{X0: math.MinInt64}); !docs.Same(got, api.Doc{}) || e != want {
			t.Errorf("Add to %s = %s, %d, want %d", what, brief(got), e, want)
		}
	}
}

// Promise 52.1: what is wrong with forms and fields.
func TestReadErrors(t *testing.T) {
	for i, b := range sample.BadDocs() {
		fails(t, fmt.Sprint("bad document ", i), b.Is, b.Err)
	}
	stream := api.Object{Kind: api.KStream, Keys: []string{"FT", "T"}, Kids: []api.Object{name("Tx"), text("a")}}
	one := func(more entries, list ...api.Object) api.Doc {
		return fields(1, append([]api.Object{plain(more)}, list...)...)
	}
	kids := func(list ...api.Object) entries { return entries{"Kids": sample.Array(list...)} }
	choice := func(o api.Object) entries { return entries{"FT": name("Ch"), "Opt": o} }
	titled := dict(entries{"T": text("b")})
	for i, c := range []struct {
		d    api.Doc
		want api.Errno
	}{
		{formed(sample.Array()), api.ErrField}, {formed(name("AcroForm")), api.ErrField}, {formed(ref(5), stream), api.ErrField}, {formed(ref(5), refs(6)), api.ErrField},
		{formed(dict(entries{"Fields": sample.Dict("")})), api.ErrField}, {formed(dict(entries{"Fields": ref(5)}), plain(nil)), api.ErrField}, {formed(dict(entries{"Fields": value.Int(0)})), api.ErrField},
		{formed(dict(entries{"Fields": sample.Array(plain(nil))})), api.ErrField}, {formed(dict(entries{"Fields": refs(99)})), api.ErrField}, {formed(dict(entries{"Fields": sample.Array(value.Null())})), api.ErrField}, {formed(dict(entries{"Fields": refs(5)}), stream), api.ErrField}, {formed(dict(entries{"Fields": sample.Array(sample.Ref(5, 1))}), plain(nil)), api.ErrField}, {formed(dict(entries{"Fields": refs(5)}), refs(6), plain(nil)), api.ErrField},
		{formed(dict(entries{"Fields": refs(5, 5)}), plain(nil)), api.ErrLoop}, {formed(dict(entries{"Fields": refs(5, 99)}), plain(nil)), api.ErrField}, {formed(dict(entries{"Fields": refs(5, 5, 99)}), plain(nil)), api.ErrLoop}, {fields(1, plain(kids(ref(6))), dict(entries{"T": text("b"), "Kids": refs(5)})), api.ErrLoop}, {fields(1, plain(kids(ref(5)))), api.ErrLoop}, {fields(2, plain(kids(ref(6))), titled), api.ErrLoop}, {fields(1, plain(kids(ref(6), ref(6))), titled), api.ErrLoop},
		{one(entries{"Kids": sample.Dict("")}), api.ErrField}, {one(entries{"Kids": ref(6)}, titled), api.ErrField}, {one(entries{"Kids": value.Int(1)}), api.ErrField}, {one(entries{"T": name("a")}), api.ErrField}, {one(entries{"T": ref(5)}), api.ErrField}, {one(entries{"T": value.Int(1)}), api.ErrField},
		// In traversal order, with what is wrong with a node before what is wrong with those below it.
		{fields(2, plain(entries{"T": name("a"), "Kids": refs(5, 6)}), titled), api.ErrField}, {fields(1, plain(kids(ref(6), ref(5))), titled), api.ErrLoop}, {fields(1, plain(kids(ref(6), value.Null(), ref(6))), titled), api.ErrField}, {fields(1, plain(kids(ref(6), ref(6), value.Null())), titled), api.ErrLoop}, {fields(1, plain(kids(ref(6), ref(5))), dict(entries{"T": name("b")})), api.ErrField}, {fields(1, plain(kids(ref(6), ref(5))), dict(entries{"T": text("b"), "V": value.Int(1)})), api.ErrField},
		{one(entries{"FT": value.Null()}), api.ErrField}, {one(entries{"FT": name("Sig")}), api.ErrField}, {one(entries{"FT": text("Tx")}), api.ErrField}, {one(entries{"FT": ref(99)}), api.ErrField}, {one(entries{"FT": name("tx")}), api.ErrField}, {one(entries{"FT": name("")}), api.ErrField}, {fields(1, plain(entries{"FT": value.Int(1), "Kids": refs(6)}), titled), api.ErrField},
		{one(entries{"V": value.Int(1)}), api.ErrField}, {one(entries{"V": sample.Array(text("v"))}), api.ErrField}, {one(entries{"V": ref(5)}), api.ErrField}, {fields(1, plain(entries{"V": value.Bool(true), "Kids": refs(6)}), titled), api.ErrField},
		{one(entries{"Ff": value.Real(10000)}), api.ErrField}, {one(entries{"Ff": text("1")}), api.ErrField}, {one(entries{"Ff": ref(5)}), api.ErrField},
		{one(choice(text("x"))), api.ErrField}, {one(choice(sample.Dict(""))), api.ErrField}, {one(choice(sample.Array(text("x"), name("y")))), api.ErrField}, {one(choice(sample.Array(sample.Array(text("x"), text("y"))))), api.ErrField}, {one(choice(sample.Array(ref(6))), text("x")), api.ErrField},
		{one(kids(value.Null())), api.ErrField}, {one(kids(ref(99))), api.ErrField}, {one(kids(sample.Dict(""))), api.ErrField}, {one(kids(dict(entries{"T": text("b")}))), api.ErrField}, {one(kids(ref(3), ref(6)), stream), api.ErrField}, {one(kids(ref(3), sample.Ref(3, 1))), api.ErrField},
	} {
		fails(t, fmt.Sprint("form ", i), c.d, c.want)
	}
}

// chain returns a document whose form has so many nodes each of which is nested in those before it, and then one more with the entries.
func chain(size int, last api.Object) api.Doc {
	var list []api.Object
	for n := range size {
		list = append(list, dict(entries{"T": text("n"), "FT": name("Tx"), "Kids": refs(6 + n)}))
	}
	return fields(1, append(list, last)...)
}

// Promise 52.1: the deepest forms, and the widest.
func TestLimits(t *testing.T) {
	leaf := plain(nil)
	for _, size := range []int{0, 1, 10, api.MaxDepth - 1} {
		if l, e := field.Read(chain(size, leaf)); len(l) != 1 || l[0].Name != strings.Repeat("n.", size)+"a" || l[0].Shows[0] != 5+size || e != api.OK {
			t.Errorf("a field in %d others is %v, %d", size, l, e)
		}
		// A widget is nested no deeper than its field.
		if l, e := field.Read(chain(size, plain(entries{"Kids": refs(3)}))); len(l) != 1 || l[0].Shows[0] != 3 || e != api.OK {
			t.Errorf("a field in %d others is %v, %d", size, l, e)
		}
		fails(t, "a loop", chain(size, plain(entries{"Kids": refs(5)})), api.ErrLoop)
	}
	for _, size := range []int{api.MaxDepth, api.MaxDepth + 1, 100} {
		fails(t, "a deep form", chain(size, leaf), api.ErrDeep)
	}
	fails(t, "a deep form", chain(api.MaxDepth, dict(entries{"T": text("a"), "Kids": value.Int(1)})), api.ErrDeep)
	fails(t, "a deep loop", chain(api.MaxDepth-1, plain(entries{"Kids": refs(5)})), api.ErrLoop)
	fails(t, "a deep stream", chain(api.MaxDepth-1, plain(entries{"Kids": refs(99)})), api.ErrField)

	// Of MaxTree nodes one is internal.
	wide := func(leaves int) api.Doc {
		var nums []int
		list := []api.Object{value.Null()}
		for n := range leaves {
			nums, list = append(nums, 6+n), append(list, dict(entries{"T": text(fmt.Sprint(n))}))
		}
		list[0] = dict(entries{"FT": name("Tx"), "Kids": refs(nums...)})
		return fields(1, list...)
	}
	begin := time.Now()
	if l, e := field.Read(wide(api.MaxTree - 1)); len(l) != api.MaxTree-1 || l[api.MaxTree-2].Name != fmt.Sprint(api.MaxTree-2) || e != api.OK {
		t.Errorf("a wide form has %d fields, %d", len(l), e)
	}
	d := wide(api.MaxTree)
	fails(t, "a wide form", d, api.ErrMany)
	d.Items[len(d.Items)-1].Obj = value.Int(1)
	fails(t, "a wide form with a wrong node", d, api.ErrField)
	d.Items[4].Obj.Kids[1].Kids[api.MaxTree-1] = ref(6)
	fails(t, "a wide form with a loop", d, api.ErrLoop)
	if time.Since(begin) > 10*time.Second {
		t.Errorf("it took %v", time.Since(begin))
	}
}

// Promise 52.1: Find.
func TestFind(t *testing.T) {
	l := []api.Field{{Name: "a", Kind: 1}, {Name: "b", Kind: 2, Choices: []string{"x"}, Shows: []int{7}}, {Name: "a", Kind: 3}, {Name: ""}}
	for title, want := range map[string]int{"a": 0, "b": 1, "": 3, "c": -1, "A": -1} {
		f, ok := field.Find(l, title)
		if ok != (want >= 0) || ok && !sameField(f, l[want]) || !ok && !sameField(f, api.Field{}) {
			t.Errorf("Find(%q) = %v, %v", title, f, ok)
		}
	}
	f, _ := field.Find(l, "b")
	f.Choices[0], f.Shows[0] = "y", 8
	if l[1].Choices[0] != "x" || l[1].Shows[0] != 7 {
		t.Error("Find shares memory")
	}
	if f, ok := field.Find(nil, "a"); ok || f.Kind != 0 {
		t.Errorf("Find in nothing = %v, %v", f, ok)
	}
}

// Promise 52.2.
func TestMay(t *testing.T) {
	long := strings.Repeat("v", api.MaxText)
	choices := []string{"x", "", long + "v"}
	for i, c := range []struct {
		f    api.Field
		v    string
		want api.Errno
	}{
		{api.Field{Kind: 1}, "v", api.OK}, {api.Field{Kind: 1}, "", api.OK}, {api.Field{Kind: 1}, long, api.OK}, {api.Field{Kind: 1}, long + "v", api.ErrLong}, {api.Field{Kind: 1, Flags: 2}, "v", api.OK}, {api.Field{Kind: 1, Flags: 1}, "v", api.ErrState}, {api.Field{Kind: 1, Flags: -1}, "v", api.ErrState}, {api.Field{Kind: 1, Flags: -2}, "v", api.OK}, {api.Field{Kind: 1, Flags: math.MaxInt}, "v", api.ErrState}, {api.Field{Kind: 1, Flags: math.MinInt}, "v", api.OK}, {api.Field{Kind: 1, Flags: 3}, long + "v", api.ErrState}, {api.Field{Kind: 1, Choices: choices}, "y", api.OK},
		{api.Field{Kind: 2}, "Yes", api.OK}, {api.Field{Kind: 2}, "Off", api.OK}, {api.Field{Kind: 2}, "", api.ErrNone}, {api.Field{Kind: 2}, "yes", api.ErrNone}, {api.Field{Kind: 2, Choices: []string{"x"}}, "x", api.ErrNone}, {api.Field{Kind: 2}, long + "v", api.ErrLong}, {api.Field{Kind: 2, Flags: 1}, "x", api.ErrState},
		{api.Field{Kind: 3, Choices: choices}, "x", api.OK}, {api.Field{Kind: 3, Choices: choices}, "", api.OK}, {api.Field{Kind: 3, Choices: choices}, "X", api.ErrNone}, {api.Field{Kind: 3}, "", api.ErrNone}, {api.Field{Kind: 3, Choices: choices}, "Yes", api.ErrNone}, {api.Field{Kind: 3, Choices: choices}, long + "v", api.ErrLong}, {api.Field{Kind: 3, Flags: 5, Choices: choices}, "x", api.ErrState},
		{api.Field{}, "", api.ErrKind}, {api.Field{Kind: 4}, "", api.ErrKind}, {api.Field{Kind: -1}, "", api.ErrKind}, {api.Field{Kind: math.MinInt, Flags: 1}, long + "v", api.ErrKind},
	} {
		if e := field.May(c.f, c.v); e != c.want {
			t.Errorf("May %d = %d, want %d", i, e, c.want)
		}
	}
}

// Promise 52.3: the items that a value changes.
func TestSet(t *testing.T) {
	check := plain(entries{"FT": name("Btn"), "V": name("Off")})
	choice := plain(entries{"FT": name("Ch"), "Opt": sample.Array(text("x"), text("y"))})
	widgets := with(check, "Kids", refs(6, 7, 6))
	below := []api.Object{dict(entries{"FT": name("Tx"), "V": text("v"), "T": text("i"), "Kids": refs(6)}), dict(entries{"T": text("a")})}
	for i, c := range []struct {
		d       api.Doc
		title   string
		v       string
		changed map[int]api.Object
	}{
		{fields(1, plain(nil)), "a", "v", map[int]api.Object{5: plain(entries{"V": text("v")})}}, {fields(1, plain(entries{"V": ref(6)}), text("w")), "a", "", map[int]api.Object{5: plain(entries{"V": text("")})}}, {fields(1, plain(entries{"V": name("Yes")})), "a", "Yes", map[int]api.Object{5: plain(entries{"V": text("Yes")})}}, {fields(1, plain(entries{"Kids": refs(6)}), sample.Dict("")), "a", "v", map[int]api.Object{5: plain(entries{"V": text("v"), "Kids": refs(6)})}},
		{fields(1, check), "a", "Yes", map[int]api.Object{5: plain(entries{"FT": name("Btn"), "V": name("Yes"), "AS": name("Yes")})}}, {fields(1, check), "a", "Off", map[int]api.Object{5: plain(entries{"FT": name("Btn"), "V": name("Off"), "AS": name("Off")})}},
		{fields(1, widgets, sample.Dict("AS", name("On")), sample.Dict("")), "a", "Yes", map[int]api.Object{5: with(widgets, "V", name("Yes")), 6: sample.Dict("AS", name("Yes")), 7: sample.Dict("AS", name("Yes"))}}, {fields(1, with(check, "Kids", sample.Array())), "a", "Yes", map[int]api.Object{5: plain(entries{"FT": name("Btn"), "V": name("Yes"), "Kids": sample.Array()})}}, {fields(1, with(check, "Kids", refs(6)), dict(entries{"T": ref(99)})), "a", "Yes", map[int]api.Object{5: plain(entries{"FT": name("Btn"), "V": name("Yes"), "Kids": refs(6)}), 6: dict(entries{"T": ref(99), "AS": name("Yes")})}},
		{fields(1, choice), "a", "y", map[int]api.Object{5: with(choice, "V", text("y"))}}, {fields(1, below...), "i.a", "w", map[int]api.Object{6: dict(entries{"T": text("a"), "V": text("w")})}}, {fields(2, plain(nil), plain(nil)), "a", "v", map[int]api.Object{5: plain(entries{"V": text("v")})}}, {fields(1, plain(entries{"T": value.Null()})), "", "v", map[int]api.Object{5: plain(entries{"T": value.Null(), "V": text("v")})}},
		// The widget is the catalog.
		{fields(1, with(check, "Kids", refs(1))), "a", "Yes", map[int]api.Object{5: plain(entries{"FT": name("Btn"), "V": name("Yes"), "Kids": refs(1)}), 1: with(fields(1).Items[0].Obj, "AS", name("Yes"))}},
	} {
		want := sample.Copy(c.d)
		for num, o := range c.changed {
			want.Items[num-1].Obj = o
		}
		got, e := field.Set(c.d, c.title, c.v)
		if wrong := sample.Wrong(c.d, got, e, want, api.OK); wrong != "" {
			t.Errorf("Set %d is wrong: %s", i, wrong)
		}
	}
}

// Promise 52.3: errors.
func TestSetErrors(t *testing.T) {
	full := with(with(sample.Broad(api.MaxKids-2), "FT", name("Tx")), "T", text("a"))
	check := with(plain(entries{"FT": name("Btn"), "V": name("Off")}), "Kids", refs(6))
	long := strings.Repeat("v", api.MaxText+1)
	for i, c := range []struct {
		d     api.Doc
		title string
		v     string
		want  api.Errno
	}{
		{fields(1, plain(nil)), "b", "v", api.ErrNone}, {fields(1, plain(nil)), "", "v", api.ErrNone}, {formed(value.Null()), "a", "v", api.ErrNone}, {formed(value.Null()), "", long, api.ErrNone}, {fields(1, plain(entries{"Kids": refs(6)}), plain(nil)), "a", "v", api.ErrNone},
		{fields(1, plain(entries{"Ff": value.Int(1)})), "a", long, api.ErrState}, {fields(1, plain(nil)), "a", long, api.ErrLong}, {fields(1, check, sample.Dict("")), "a", "x", api.ErrNone}, {fields(1, plain(entries{"FT": name("Ch")})), "a", "x", api.ErrNone}, {fields(2, plain(entries{"Ff": value.Int(1)}), plain(nil)), "a", "v", api.ErrState},
		// No room for the value, or for the state.
		{fields(1, full), "a", "v", api.ErrMany}, {fields(1, check, sample.Broad(api.MaxKids)), "a", "Yes", api.ErrMany}, {fields(1, with(with(full, "FT", name("Btn")), "K00007", value.Null())), "a", "Yes", api.ErrMany}, {fields(1, with(full, "K00007", value.Null())), "a", "v", api.OK},
	} {
		got, e := field.Set(c.d, c.title, c.v)
		if e != c.want || e != api.OK && !docs.Same(got, api.Doc{}) {
			t.Errorf("Set %d = %s, %d, want %d", i, brief(got), e, c.want)
		}
	}
}

// P5: a check box with as many widgets as there can be.
func TestSetTakesNoLonger(t *testing.T) {
	var nums []int
	list := []api.Object{value.Null()}
	for n := range 8000 {
		nums, list = append(nums, 6+n), append(list, sample.Dict("A", sample.Broad(20)))
	}
	list[0] = plain(entries{"FT": name("Btn"), "Kids": refs(nums...)})
	begin := time.Now()
	if got, e := field.Set(fields(1, list...), "a", "Yes"); e != api.OK || !value.Same(got.Items[8004].Obj, with(list[8000], "AS", name("Yes"))) {
		t.Errorf("Set of a check box with many widgets = %d", e)
	}
	again := fields(1, plain(entries{"FT": name("Btn"), "Kids": refs(slices.Repeat([]int{6}, api.MaxKids)...)}), sample.Broad(api.MaxKids-1))
	if got, e := field.Set(again, "a", "Yes"); e != api.OK || got.Items[5].Obj.Keys[0] != "AS" {
		t.Errorf("Set of a check box with one widget many times = %d", e)
	}
	if time.Since(begin) > 5*time.Second {
		t.Errorf("it took %v", time.Since(begin))
	}
}
