package field_test

import (
	"fmt"
	"math"
	"slices"
	"strings"
	"testing"

	"foliant/api"
	"foliant/docs"
	"foliant/field"
	"foliant/sample"
	"foliant/value"
)

// widget returns the dictionary that Add makes of a text field called new in the box of the tests, with other entries.
func widget(more entries) api.Object {
	all := entries{"Type": name("Annot"), "Subtype": name("Widget"), "FT": name("Tx"), "T": text("new"), "V": text("v"), "Rect": sample.Array(value.Real(3), value.Real(-api.MaxFix), value.Real(-1), value.Real(api.MaxFix)), "P": ref(4)}
	for key, o := range more {
		all[key] = o
	}
	return dict(all)
}

// box is the box of the tests.
func box() api.Rect { return api.Rect{X0: 3, Y0: -api.MaxFix, X1: -1, Y1: api.MaxFix} }

// Promise 52.4: the items that Add makes and changes.
func TestAdd(t *testing.T) {
	fresh := api.Field{Name: "new", Kind: api.FieldText, Value: "v"}
	change := func(f func(f *api.Field)) api.Field { g := fresh; f(&g); return g }
	annotated := func(d api.Doc, o api.Object) api.Doc {
		d.Items[3].Obj = with(d.Items[3].Obj, "Annots", o)
		return d
	}
	plainDoc := formed(value.Null())
	held := formed(value.Null())
	held.Items[3].Gen = 7
	held.Items[1].Obj.Kids[1].Kids[1].G = 7
	broken := annotated(formed(ref(5), dict(entries{"DA": text("d"), "Fields": ref(6)}), refs(7), plain(nil)), ref(8))
	broken.Items = append(broken.Items, api.Item{Num: 8, Obj: refs(3, 99)})
	for i, c := range []struct {
		d            api.Doc
		f            api.Field
		num          int
		made, fields api.Object
		annots       api.Object
		form         entries
	}{
		{plainDoc, fresh, 5, widget(nil), refs(5), refs(5), nil},
		{plainDoc, change(func(f *api.Field) { f.Value, f.Flags = "", 3 }), 5, widget(entries{"V": text(""), "Ff": value.Int(3)}), refs(5), refs(5), nil},
		{plainDoc, change(func(f *api.Field) { f.Flags = api.MaxInt }), 5, widget(entries{"Ff": value.Int(api.MaxInt)}), refs(5), refs(5), nil},
		{plainDoc, change(func(f *api.Field) { f.Kind, f.Value = api.FieldCheck, "Yes" }), 5, widget(entries{"FT": name("Btn"), "V": name("Yes"), "AS": name("Yes")}), refs(5), refs(5), nil},
		{plainDoc, change(func(f *api.Field) { f.Kind, f.Value = api.FieldCheck, "Off" }), 5, widget(entries{"FT": name("Btn"), "V": name("Off"), "AS": name("Off")}), refs(5), refs(5), nil},
		{plainDoc, change(func(f *api.Field) { f.Kind, f.Choices = api.FieldChoice, []string{"", "v", "v"} }), 5, widget(entries{"FT": name("Ch"), "Opt": sample.Array(text(""), text("v"), text("v"))}), refs(5), refs(5), nil},
		{plainDoc, change(func(f *api.Field) { f.Name = strings.Repeat("n", api.MaxText) }), 5, widget(entries{"T": text(strings.Repeat("n", api.MaxText))}), refs(5), refs(5), nil},
		{held, fresh, 5, widget(entries{"P": sample.Ref(4, 7)}), refs(5), refs(5), nil},
		{annotated(fields(1, plain(nil)), refs(5)), fresh, 6, widget(nil), refs(5, 6), refs(5, 6), nil},
		// What is referred to becomes direct, and stays as it was besides.
		{broken, fresh, 9, widget(nil), refs(7, 9), refs(3, 99, 9), entries{"DA": text("d")}},
		{annotated(formed(dict(entries{"DA": text("d")})), name("x")), fresh, 5, widget(nil), refs(5), refs(5), entries{"DA": text("d")}},
		// References that are dangling before, and lead to the new item then.
		{formed(ref(5)), fresh, 5, widget(nil), refs(5), refs(5), nil}, {formed(dict(entries{"Fields": ref(5)})), fresh, 5, widget(nil), refs(5), refs(5), nil}, {annotated(formed(value.Null()), ref(5)), fresh, 5, widget(nil), refs(5), refs(5), nil},
	} {
		want := sample.Copy(c.d)
		form := entries{"Fields": c.fields}
		for key, o := range c.form {
			form[key] = o
		}
		want.Items[0].Obj = with(want.Items[0].Obj, "AcroForm", dict(form))
		want.Items[3].Obj = with(want.Items[3].Obj, "Annots", c.annots)
		want.Items = append(want.Items, api.Item{Num: c.num, Obj: c.made})
		got, e := field.Add(c.d, 1, c.f, box())
		c.f.Shows = []int{c.num}
		if l, readErr := field.Read(got); e == api.OK && (readErr != api.OK || !sameField(l[len(l)-1], c.f)) {
			t.Errorf("after Add %d the fields are %v, %d", i, l, readErr)
		}
		if wrong := sample.Wrong(c.d, got, e, want, api.OK); wrong != "" {
			t.Errorf("Add %d is wrong: %s", i, wrong)
		}
	}
}

// Promise 52.4: a page that is the catalog too.
func TestAddToCatalog(t *testing.T) {
	zero := value.Int(0)
	d := sample.Doc(1, api.Item{Num: 1, Obj: dict(entries{"Type": name("Page"), "Pages": ref(1), "MediaBox": sample.Array(zero, zero, zero, zero)})})
	got, e := field.Add(d, 0, api.Field{Name: "new", Kind: api.FieldText, Value: "v"}, box())
	want := sample.Copy(d)
	want.Items[0].Obj = with(with(want.Items[0].Obj, "AcroForm", dict(entries{"Fields": refs(2)})), "Annots", refs(2))
	want.Items = append(want.Items, api.Item{Num: 2, Obj: widget(entries{"P": ref(1)})})
	if wrong := sample.Wrong(d, got, e, want, api.OK); wrong != "" {
		t.Errorf("Add is wrong: %s", wrong)
	}
}

// Promise 52.4: errors, in their order.
func TestAddErrors(t *testing.T) {
	long, far := strings.Repeat("n", api.MaxText+1), api.Rect{Y1: api.MaxFix + 1}
	d := fields(1, plain(nil))
	lost := fields(1, plain(nil))
	lost.Items[3].Obj = value.Drop(lost.Items[3].Obj, "MediaBox")
	for i, c := range []struct {
		d    api.Doc
		page int
		f    api.Field
		box  api.Rect
		want api.Errno
	}{
		{d, 9, api.Field{}, far, api.ErrArg}, {d, 9, api.Field{Name: "."}, far, api.ErrArg}, {d, 9, api.Field{Name: long + ".", Flags: -1}, far, api.ErrArg}, {d, 9, api.Field{Name: long, Shows: []int{5}}, far, api.ErrArg}, {d, 1, api.Field{Name: "new", Kind: 1, Shows: []int{0}}, box(), api.ErrArg},
		{d, 9, api.Field{Name: long, Flags: -1}, far, api.ErrLong}, {d, 9, api.Field{Name: "a", Flags: -1}, far, api.ErrRange}, {d, 9, api.Field{Name: "a", Flags: api.MaxInt + 1}, far, api.ErrRange}, {d, 9, api.Field{Name: "a", Flags: math.MinInt, Kind: 1, Choices: []string{""}}, far, api.ErrRange},
		{d, 9, api.Field{Name: "a", Flags: 1, Value: long}, far, api.ErrKind}, {d, 9, api.Field{Name: "a", Kind: 4, Choices: []string{""}}, far, api.ErrKind}, {d, 9, api.Field{Name: "a", Kind: 1, Value: long, Choices: []string{""}}, far, api.ErrLong}, {d, 9, api.Field{Name: "a", Kind: 2, Choices: []string{""}}, far, api.ErrNone}, {d, 9, api.Field{Name: "a", Kind: 3, Choices: []string{"x"}}, far, api.ErrNone},
		{d, 9, api.Field{Name: "a", Kind: 1, Choices: []string{""}}, far, api.ErrArg}, {d, 9, api.Field{Name: "a", Kind: 2, Value: "Yes", Choices: []string{"Yes"}}, far, api.ErrArg}, {d, 9, api.Field{Name: "a", Kind: 1, Choices: []string{}, Shows: []int{}}, far, api.ErrTwice}, {d, 9, api.Field{Name: "a", Kind: 1}, far, api.ErrTwice}, {d, 9, api.Field{Name: "b", Kind: 1}, far, api.ErrRange},
		{d, 9, api.Field{Name: "b", Kind: 1}, api.Rect{X0: -api.MaxFix - 1}, api.ErrRange}, {d, 9, api.Field{Name: "b", Kind: 1}, api.Rect{Y0: math.MaxInt64}, api.ErrRange}, {d, 9, api.Field{Name: "b", Kind: 1}, api.Rect{X1: math.MinInt64}, api.ErrRange}, {d, 9, api.Field{Name: "b", Kind: 1}, box(), api.ErrNone}, {d, -1, api.Field{Name: "b", Kind: 1}, box(), api.ErrNone}, {d, 2, api.Field{Name: "b", Kind: 1}, box(), api.ErrNone}, {lost, 1, api.Field{Name: "b", Kind: 1}, box(), api.ErrPage}, {lost, 0, api.Field{Name: "b", Kind: 1}, box(), api.OK},
		{d, 1, api.Field{Name: "b", Kind: 3, Choices: []string{"", strings.Repeat("x", api.MaxString+1)}}, box(), api.ErrLong}, {d, 1, api.Field{Name: "b", Kind: 3, Choices: slices.Repeat([]string{""}, api.MaxKids+1)}, box(), api.ErrMany}, {d, 1, api.Field{Name: "b", Kind: 3, Choices: slices.Repeat([]string{""}, api.MaxKids)}, box(), api.OK}, {d, 1, api.Field{Name: "b", Kind: 3, Choices: []string{"", strings.Repeat("x", api.MaxString)}, Flags: 1}, box(), api.OK},
	} {
		got, e := field.Add(c.d, c.page, c.f, c.box)
		if e != c.want || e != api.OK && !docs.Same(got, api.Doc{}) {
			t.Errorf("Add %d = %s, %d, want %d", i, brief(got), e, c.want)
		}
	}
}

// Promise 52.4: the errors of the steps, in their order.
func TestAddSteps(t *testing.T) {
	fresh, wide := api.Field{Name: "new", Kind: 1}, api.Field{Name: "new", Kind: 3, Choices: slices.Repeat([]string{""}, api.MaxKids+1)}
	full := func(d api.Doc) api.Doc {
		d.Items = append(d.Items, api.Item{Num: api.MaxNum})
		return d
	}
	crowded := func(d api.Doc) api.Doc {
		d.Items[3].Obj = with(d.Items[3].Obj, "Annots", refs(slices.Repeat([]int{3}, api.MaxKids)...))
		return d
	}
	// Direct in the catalog, a form is one level deeper than by itself.
	nested := formed(dict(entries{"Extra": sample.Nest(value.Int(1), api.MaxDepth-3)}))
	deep := func() api.Doc {
		return formed(ref(5), dict(entries{"Extra": sample.Nest(value.Int(1), api.MaxDepth-2)}))
	}
	broad := formed(with(sample.Broad(api.MaxKids), "K00001", value.Int(1)))
	brimful := formed(value.Null())
	catalogs := sample.Broad(api.MaxKids - 2)
	brimful.Items[0].Obj = with(with(catalogs, "Pages", ref(2)), "Type", name("Catalog"))
	packed := formed(value.Null())
	packed.Items[3].Obj = with(with(with(sample.Broad(api.MaxKids-3), "Type", name("Page")), "MediaBox", packed.Items[3].Obj.Kids[0]), "Parent", ref(2))
	for i, c := range []struct {
		d    api.Doc
		f    api.Field
		want api.Errno
	}{
		{full(formed(value.Null())), wide, api.ErrMany}, {full(formed(value.Null())), fresh, api.ErrFull}, {full(broad), fresh, api.ErrFull}, {broad, fresh, api.ErrMany}, {brimful, fresh, api.ErrMany}, {crowded(formed(value.Null())), fresh, api.ErrMany}, {packed, fresh, api.ErrMany}, {nested, fresh, api.OK}, {deep(), fresh, api.ErrDeep}, {crowded(deep()), fresh, api.ErrDeep},
	} {
		if e := docs.Check(c.d); e != api.OK {
			t.Fatalf("document %d has the error %d", i, e)
		}
		got, e := field.Add(c.d, 1, c.f, box())
		if e != c.want || e != api.OK && !docs.Same(got, api.Doc{}) {
			t.Errorf("Add %d = %s, %d, want %d", i, brief(got), e, c.want)
		}
	}
}

// Promise 52.5: fields that were added one after the other, and set.
func TestAddAndSet(t *testing.T) {
	d := formed(value.Null())
	var want []api.Field
	for i := range 30 {
		f := api.Field{Name: fmt.Sprint("f", i), Kind: 1 + i%3, Value: "Off", Flags: 2 * (i % 4)}
		if f.Kind == api.FieldChoice {
			f.Choices = []string{"Yes", "Off"}
		}
		next, e := field.Add(d, i%2, f, box())
		if e != api.OK {
			t.Fatalf("Add of %v = %d", f, e)
		}
		f.Shows = []int{5 + i}
		d, want = next, append(want, f)
		if l, e := field.Read(d); !sameFields(l, want) || e != api.OK {
			t.Fatalf("the fields are %v, %d, want %v", l, e, want)
		}
	}
	for i := range want {
		next, e := field.Set(d, want[i].Name, "Yes")
		if e != api.OK {
			t.Fatalf("Set of %v = %d", want[i], e)
		}
		d, want[i].Value = next, "Yes"
		if l, e := field.Read(d); !sameFields(l, want) || e != api.OK {
			t.Fatalf("the fields are %v, %d, want %v", l, e, want)
		}
	}
}
