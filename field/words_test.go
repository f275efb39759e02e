package field_test

import (
	"slices"
	"strings"
	"testing"

	"foliant/api"
	"foliant/catalog"
	"foliant/docs"
	"foliant/field"
	"foliant/pages"
	"foliant/sample"
	"foliant/value"
)

// model reads a form by the words of the chapter.
type model struct {
	d      api.Doc
	met    map[int64]bool
	fields []api.Field
	// owners has the number of each field's item.
	owners []int
}

// isNode reports whether an object is a reference to a dictionary.
func (x *model) isNode(o api.Object) bool {
	return o.Kind == api.KRef && docs.Follow(x.d, o).Kind == api.KDict
}

// visit visits a node, with the nodes that enclose it from the outermost one on.
func (x *model) visit(o api.Object, above []api.Object) api.Errno {
	switch {
	case !x.isNode(o):
		return api.ErrField
	case x.met[o.N]:
		return api.ErrLoop
	case len(x.met) == 4096:
		return api.ErrMany
	case len(above) >= 24:
		return api.ErrDeep
	}
	x.met[o.N] = true
	here := docs.Follow(x.d, o)
	kids, title := docs.Path(x.d, here, "Kids"), docs.Path(x.d, here, "T")
	if kids.Kind != api.KNull && kids.Kind != api.KArray || title.Kind != api.KNull && title.Kind != api.KString {
		return api.ErrField
	}
	line := append(slices.Clone(above), here)
	internal := false
	for _, kid := range kids.Kids {
		if x.isNode(kid) && docs.Path(x.d, kid, "T").Kind != api.KNull {
			internal = true
		}
	}
	if !internal {
		return x.field(int(o.N), line, kids)
	}
	for _, kid := range kids.Kids {
		if e := x.visit(kid, line); e != api.OK {
			return e
		}
	}
	return api.OK
}

// inherited returns the value of a key of the innermost node that has it.
func (x *model) inherited(line []api.Object, key string) api.Object {
	for _, o := range slices.Backward(line) {
		if v := docs.Path(x.d, o, key); v.Kind != api.KNull {
			return v
		}
	}
	return value.Null()
}

// field takes in the field that is the innermost node.
func (x *model) field(num int, line []api.Object, kids api.Object) api.Errno {
	var f api.Field
	for _, o := range line {
		if title := docs.Path(x.d, o, "T"); title.Kind == api.KString {
			if f.Name != "" {
				f.Name += "."
			}
			f.Name += title.S
		}
	}
	kind := x.inherited(line, "FT")
	f.Kind = 1 + slices.Index([]string{"Tx", "Btn", "Ch"}, kind.S)
	if kind.Kind != api.KName || f.Kind == 0 {
		return api.ErrField
	}
	v, flags := x.inherited(line, "V"), x.inherited(line, "Ff")
	if !slices.Contains([]int{api.KNull, api.KString, api.KName}, v.Kind) || flags.Kind != api.KNull && flags.Kind != api.KInt {
		return api.ErrField
	}
	f.Value, f.Flags = v.S, int(flags.N)
	if f.Kind == api.FieldChoice {
		list := docs.Path(x.d, line[len(line)-1], "Opt")
		if list.Kind != api.KNull && list.Kind != api.KArray {
			return api.ErrField
		}
		for _, o := range list.Kids {
			if o.Kind != api.KString {
				return api.ErrField
			}
			f.Choices = append(f.Choices, o.S)
		}
	}
	for _, kid := range kids.Kids {
		if !x.isNode(kid) {
			return api.ErrField
		}
		f.Shows = append(f.Shows, int(kid.N))
	}
	if kids.Kind == api.KNull {
		f.Shows = []int{num}
	}
	x.fields, x.owners = append(x.fields, f), append(x.owners, num)
	return api.OK
}

// read does what Read does, and returns the numbers of the fields' items too.
func read(d api.Doc) ([]api.Field, []int, api.Errno) {
	if e := docs.Check(d); e != api.OK {
		return nil, nil, e
	}
	form := docs.Path(d, d.Trailer, "Root", "AcroForm")
	fields := docs.Path(d, form, "Fields")
	switch {
	case form.Kind == api.KNull:
		return nil, nil, api.OK
	case form.Kind != api.KDict || fields.Kind != api.KNull && fields.Kind != api.KArray:
		return nil, nil, api.ErrField
	}
	x := model{d: d, met: map[int64]bool{}}
	for _, o := range fields.Kids {
		if e := x.visit(o, nil); e != api.OK {
			return nil, nil, e
		}
	}
	return x.fields, x.owners, api.OK
}

func sameField(a, b api.Field) bool {
	return a.Name == b.Name && a.Kind == b.Kind && a.Value == b.Value && a.Flags == b.Flags && slices.Equal(a.Choices, b.Choices) && slices.Equal(a.Shows, b.Shows)
}

func sameFields(a, b []api.Field) bool { return slices.EqualFunc(a, b, sameField) }

// forms returns the documents that the words of the chapter are tried on.
func forms() []api.Doc {
	return slices.Concat(sample.Forms(), sample.Trees()[:50], sample.Webs()[:50], sample.Docs()[:3])
}

// Promise 52.1, by the words of the chapter.
func TestReadByTheWords(t *testing.T) {
	errs, count := map[api.Errno]int{}, map[string]int{}
	for _, d := range forms() {
		was := sample.Copy(d)
		want, _, wantErr := read(d)
		got, e := field.Read(d)
		if !sameFields(got, want) || e != wantErr {
			t.Fatalf("Read(%s) = %v, %d, want %v, %d", brief(d), got, e, want, wantErr)
		}
		errs[e]++
		for i, f := range got {
			count["all"]++
			count[[]string{"", "text", "check", "choice"}[f.Kind]]++
			if strings.Contains(f.Name, ".") {
				count["inner"]++
			}
			if len(f.Shows) != 1 {
				count["shown"]++
			}
			at := slices.IndexFunc(got, func(g api.Field) bool { return g.Name == f.Name })
			if found, ok := field.Find(got, f.Name); !ok || !sameField(found, got[at]) || at > i {
				t.Errorf("Find(%v, %q) = %v, %v", got, f.Name, found, ok)
			}
		}
		if f, ok := field.Find(got, "nobody"); ok || !sameField(f, api.Field{}) {
			t.Errorf("Find(%v) = %v, %v", got, f, ok)
		}
		if !docs.Same(d, was) {
			t.Fatalf("the document has changed: %s", brief(was))
		}
	}
	if errs[api.OK] < 600 || errs[api.ErrField] < 80 || errs[api.ErrLoop] < 5 {
		t.Errorf("the errors are %v", errs)
	}
	for _, key := range []string{"text", "check", "choice", "inner", "shown"} {
		if count[key] < 200 {
			t.Errorf("the fields are %v", count)
		}
	}
}

// may does what May does.
func may(f api.Field, v string) api.Errno {
	switch {
	case f.Kind < 1 || f.Kind > 3:
		return api.ErrKind
	case f.Flags&1 == 1:
		return api.ErrState
	case len(v) > 4096:
		return api.ErrLong
	case f.Kind == 2 && v != "Off" && v != "Yes", f.Kind == 3 && !slices.Contains(f.Choices, v):
		return api.ErrNone
	}
	return api.OK
}

// set does what Set does, one step after the other.
func set(d api.Doc, title, v string) (api.Doc, api.Errno) {
	l, owners, e := read(d)
	if e != api.OK {
		return api.Doc{}, e
	}
	at := slices.IndexFunc(l, func(f api.Field) bool { return f.Name == title })
	if at < 0 {
		return api.Doc{}, api.ErrNone
	}
	if e := may(l[at], v); e != api.OK {
		return api.Doc{}, e
	}
	o := value.String(v)
	if l[at].Kind == api.FieldCheck {
		o = value.Name(v)
	}
	put := func(num int, key string) {
		if e != api.OK {
			return
		}
		i, _ := docs.Get(d, num)
		if i.Obj, e = value.Set(i.Obj, key, o); e == api.OK {
			d, e = docs.Put(d, i)
		}
	}
	put(owners[at], "V")
	if l[at].Kind == api.FieldCheck {
		for _, num := range l[at].Shows {
			put(num, "AS")
		}
	}
	return d, e
}

// mixer makes choices that look irregular and are always the same.
type mixer uint32

// pick chooses a number from 0 to below, not included.
func (x *mixer) pick(below int) int {
	*x = *x*1664525 + 1013904223
	return int(*x>>8) % below
}

// Promises 52.2, 52.3 and 52.5, by the words of the chapter.
func TestSetByTheWords(t *testing.T) {
	x, errs := mixer(52), map[api.Errno]int{}
	for _, d := range forms() {
		l, owners, _ := read(d)
		titles := []string{"nobody", ""}
		for _, f := range l {
			titles = append(titles, f.Name)
		}
		for _, title := range titles {
			v := []string{"Yes", "Off", "x", "", "a", strings.Repeat("v", 4097-x.pick(2))}[x.pick(6)]
			if at := slices.IndexFunc(l, func(f api.Field) bool { return f.Name == title }); at >= 0 && len(l[at].Choices) > 0 {
				v = l[at].Choices[0]
			}
			want, wantErr := set(d, title, v)
			got, e := field.Set(d, title, v)
			if e == api.OK {
				follows(t, d, got, l, owners, title, v)
			}
			if wrong := sample.Wrong(d, got, e, want, wantErr); wrong != "" {
				t.Fatalf("Set(%s, %q, %s) = %d, want %d, and is wrong: %s", brief(d), title, brief(v), e, wantErr, wrong)
			}
			errs[e]++
		}
	}
	if errs[api.OK] < 500 || errs[api.ErrNone] < 300 || errs[api.ErrState] < 100 || errs[api.ErrField] < 100 || errs[api.ErrLong] < 20 {
		t.Errorf("the errors are %v", errs)
	}
}

// follows checks promise 52.5 for a value that was set: the others are unchanged unless they share the items.
func follows(t *testing.T, d, got api.Doc, before []api.Field, owners []int, title, v string) {
	t.Helper()
	l, e := field.Read(got)
	if len(l) != len(before) || e != api.OK {
		t.Fatalf("after Set of %q in %s the fields are %v, %d", title, brief(d), l, e)
	}
	at := slices.IndexFunc(before, func(f api.Field) bool { return f.Name == title })
	for i, f := range l {
		want := before[i]
		if i == at {
			want.Value = v
		}
		shared := i != at && slices.Contains(append(before[at].Shows, owners[at]), owners[i])
		if !shared && !sameField(f, want) {
			t.Fatalf("after Set of %q in %s field %d is %v, want %v", title, brief(d), i, f, want)
		}
	}
}

// add does what Add does, one step after the other.
func add(d api.Doc, page int, f api.Field, box api.Rect) (api.Doc, api.Errno) {
	l, _, e := read(d)
	if e != api.OK {
		return api.Doc{}, e
	}
	fits := func(n int64) bool { return -1<<30 <= n && n <= 1<<30 }
	writable := f
	writable.Flags = 0
	switch {
	case f.Name == "" || strings.Contains(f.Name, ".") || len(f.Shows) > 0:
		return api.Doc{}, api.ErrArg
	case len(f.Name) > 4096:
		return api.Doc{}, api.ErrLong
	case f.Flags < 0 || f.Flags > 2147483647:
		return api.Doc{}, api.ErrRange
	case may(writable, f.Value) != api.OK:
		return api.Doc{}, may(writable, f.Value)
	case len(f.Choices) > 0 && f.Kind != 3:
		return api.Doc{}, api.ErrArg
	case slices.ContainsFunc(l, func(g api.Field) bool { return g.Name == f.Name }):
		return api.Doc{}, api.ErrTwice
	case !fits(box.X0) || !fits(box.Y0) || !fits(box.X1) || !fits(box.Y1):
		return api.Doc{}, api.ErrRange
	}
	p, e := pages.Get(d, page)
	if e != api.OK {
		return api.Doc{}, e
	}
	return appended(d, p.Num, f, box)
}

// appended appends a field to the form and to the page that is the item with the number num.
func appended(d api.Doc, num int, f api.Field, box api.Rect) (api.Doc, api.Errno) {
	sheet, _ := docs.Get(d, num)
	form := docs.Path(d, d.Trailer, "Root", "AcroForm")
	fields, annots := docs.Path(d, form, "Fields"), docs.Path(d, sheet.Obj, "Annots")
	v := value.String(f.Value)
	if f.Kind == 2 {
		v = value.Name(f.Value)
	}
	all := map[string]api.Object{"Type": value.Name("Annot"), "Subtype": value.Name("Widget"), "FT": value.Name([]string{"", "Tx", "Btn", "Ch"}[f.Kind]), "T": value.String(f.Name), "V": v}
	if f.Flags != 0 {
		all["Ff"] = value.Int(int64(f.Flags))
	}
	if len(f.Choices) > 0 {
		list := sample.Array()
		for _, s := range f.Choices {
			list.Kids = append(list.Kids, value.String(s))
		}
		all["Opt"] = list
	}
	all["Rect"] = value.Array(value.Real(box.X0), value.Real(box.Y0), value.Real(box.X1), value.Real(box.Y1))
	all["P"] = value.Ref(sheet.Num, sheet.Gen)
	if f.Kind == 2 {
		all["AS"] = v
	}
	d, added, e := docs.Add(d, sample.Entries(all))
	if e != api.OK {
		return api.Doc{}, e
	}
	if form.Kind == api.KNull {
		form = sample.Dict("")
	}
	if form, e = value.Set(form, "Fields", sample.Array(append(fields.Kids, value.Ref(added, 0))...)); e != api.OK {
		return api.Doc{}, e
	}
	if d, e = catalog.SetRoot(d, "AcroForm", form); e != api.OK {
		return api.Doc{}, e
	}
	if annots.Kind != api.KArray {
		annots = sample.Array()
	}
	sheet, _ = docs.Get(d, num)
	if sheet.Obj, e = value.Set(sheet.Obj, "Annots", sample.Array(append(annots.Kids, value.Ref(added, 0))...)); e != api.OK {
		return api.Doc{}, e
	}
	return docs.Put(d, sheet)
}

// field makes a field that is rarely wrong.
func (x *mixer) field(l []api.Field) api.Field {
	f := api.Field{Name: []string{"new", "a", "A", "é", "x y"}[x.pick(5)], Kind: 1 + x.pick(3), Value: "Yes", Flags: x.pick(3)}
	if f.Kind == api.FieldChoice {
		f.Choices = []string{"No", "Yes", "Yes"}[:2+x.pick(2)]
	}
	if x.pick(12) > 0 {
		return f
	}
	switch x.pick(10) {
	case 0:
		f.Name = []string{"", ".", "a.b", strings.Repeat("n", 4097)}[x.pick(4)]
	case 1:
		f.Shows = []int{7}
	case 2:
		f.Flags = []int{-1, 1 << 31}[x.pick(2)]
	case 3:
		f.Kind = []int{-1, 0, 4}[x.pick(3)]
	case 4:
		f.Choices = append(f.Choices, "x")
	case 5, 6:
		f.Value = []string{"x", strings.Repeat("v", 4097)}[x.pick(2)]
	default:
		if len(l) > 0 {
			f.Name = l[x.pick(len(l))].Name
		}
	}
	return f
}

// Promises 52.4 and 52.5, by the words of the chapter.
func TestAddByTheWords(t *testing.T) {
	x, errs := mixer(524), map[api.Errno]int{}
	for _, d := range forms() {
		l, _, _ := read(d)
		n, _ := pages.Count(d)
		for range 3 {
			page, f := x.pick(n+1)-x.pick(20)/19, x.field(l)
			box := api.Rect{X0: int64(x.pick(100)), Y0: -5, X1: -int64(x.pick(100)), Y1: 7}
			if x.pick(30) == 0 {
				*[]*int64{&box.X0, &box.Y0, &box.X1, &box.Y1}[x.pick(4)] = []int64{1<<30 + 1, -1<<30 - 1, 1 << 30}[x.pick(3)]
			}
			want, wantErr := add(d, page, f, box)
			got, e := field.Add(d, page, f, box)
			if e == api.OK && sample.Settled(d, got) {
				_, dropped := docs.Diff(got, d)
				f.Shows = dropped
				if after, e := field.Read(got); !sameFields(after, append(slices.Clone(l), f)) || e != api.OK {
					t.Fatalf("after Add of %v to %s the fields are %v, %d", f, brief(d), after, e)
				}
				errs[-1]++
			}
			if wrong := sample.Wrong(d, got, e, want, wantErr); wrong != "" {
				t.Fatalf("Add(%s, %d, %v, %v) = %d, want %d, and is wrong: %s", brief(d), page, f, box, e, wantErr, wrong)
			}
			errs[e]++
		}
	}
	if errs[-1] < 500 || errs[api.ErrNone] < 100 || errs[api.ErrArg] < 10 || errs[api.ErrRange] < 20 || errs[api.ErrField] < 100 || errs[api.ErrTwice] < 10 || errs[api.ErrPage] < 20 || errs[api.ErrKind] < 5 || errs[api.ErrLong] < 5 {
		t.Errorf("the errors are %v", errs)
	}
}
