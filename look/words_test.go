package look_test

import (
	"slices"
	"strings"
	"testing"

	"foliant/api"
	"foliant/docs"
	"foliant/draw"
	"foliant/field"
	"foliant/filter"
	"foliant/fix"
	"foliant/look"
	"foliant/matrix"
	"foliant/pages"
	"foliant/plain"
	"foliant/sample"
	"foliant/value"
)

// written does what Content does, by the words of the chapter.
func written(s string, box api.Rect, size int64) (string, api.Errno) {
	if len(s) > 4096 {
		return "", api.ErrLong
	}
	for _, n := range []int64{box.X0, box.Y0, box.X1, box.Y1} {
		if n < -1<<30 || n > 1<<30 {
			return "", api.ErrRange
		}
	}
	if box.X1 < box.X0 || box.Y1 < box.Y0 || size < 1 || size > 1<<30 {
		return "", api.ErrArg
	}
	twice := box.Y1 - box.Y0 - size
	y := twice / 2
	if twice%2 == 1 {
		y++
	}
	shown, e := plain.String(s)
	return content(fix.Text(size), fix.Text(y), shown), e
}

// made does what Make does, one step after the other.
func made(d api.Doc, title string) (api.Doc, api.Errno) {
	l, e := field.Read(d)
	if e != api.OK {
		return api.Doc{}, e
	}
	f, ok := field.Find(l, title)
	if !ok {
		return api.Doc{}, api.ErrNone
	}
	s := f.Value
	if f.Kind == api.FieldCheck {
		s = map[bool]string{true: "X"}[f.Value == "Yes"]
	}
	for _, num := range f.Shows {
		i, _ := docs.Get(d, num)
		if i.Obj.Kind != api.KDict {
			return api.Doc{}, api.ErrKind
		}
		o, _ := value.Get(i.Obj, "Rect")
		box, e := pages.Rect(d, o)
		if e != api.OK {
			return api.Doc{}, e
		}
		width, height := box.X1-box.X0, box.Y1-box.Y0
		size := min(int64(120000), height)
		if size == 0 {
			size = 1
		}
		data, e := written(s, box, size)
		if e != api.OK {
			return api.Doc{}, e
		}
		if width > 1<<30 || height > 1<<30 {
			return api.Doc{}, api.ErrRange
		}
		o = appearance(width, height, "", "", "")
		o.S = data
		var num int
		if d, num, e = docs.Add(d, o); e != api.OK {
			return api.Doc{}, e
		}
		i.Obj, e = value.Set(i.Obj, "AP", dict(entries{"N": ref(num)}))
		if e != api.OK {
			return api.Doc{}, e
		}
		if d, e = docs.Put(d, i); e != api.OK {
			return api.Doc{}, e
		}
	}
	return d, api.OK
}

// filled does what Fill does.
func filled(d api.Doc, title, s string) (api.Doc, api.Errno) {
	d, e := field.Set(d, title, s)
	if e != api.OK {
		return api.Doc{}, e
	}
	return made(d, title)
}

// read does what Read does.
func read(d api.Doc, num int) (string, api.Errno) {
	if e := docs.Check(d); e != api.OK {
		return "", e
	}
	i, ok := docs.Get(d, num)
	if !ok {
		return "", api.ErrNone
	}
	if i.Obj.Kind != api.KDict {
		return "", api.ErrKind
	}
	o := docs.Path(d, i.Obj, "AP", "N")
	if o.Kind != api.KStream {
		return "", api.ErrNone
	}
	data, e := filter.Decode(o)
	if e != api.OK {
		return "", e
	}
	res := sample.Dict("")
	if o, ok := value.Get(o, "Resources"); ok {
		res = docs.Follow(d, o)
	}
	shown, e := draw.Run(d, res, data, matrix.One())
	s := ""
	for _, g := range shown.Glyphs {
		s += g.S
	}
	return s, e
}

// forms returns the documents that the words of the chapter are tried on.
func forms() []api.Doc {
	return slices.Concat(sample.Looks(), sample.Forms()[:100], sample.Trees()[:50], sample.Docs()[:3])
}

// mixer makes choices that look irregular and are always the same.
type mixer uint32

// pick chooses a number from 0 to below, not included.
func (x *mixer) pick(below int) int {
	*x = *x*1664525 + 1013904223
	return int(*x>>8) % below
}

// Promise 53.1, by the words of the chapter.
func TestContentByTheWords(t *testing.T) {
	x, errs := mixer(53), map[api.Errno]int{}
	edges := []int64{0, 1, -1, 2, 3, 5, 120000, 300000, -300000, api.MaxFix - 1, api.MaxFix, -api.MaxFix, api.MaxFix + 1, -api.MaxFix - 1}
	pick := func(below int) int64 { return edges[x.pick(below)] }
	for range 20000 {
		s := []string{"", "a", "(b)", "\x00\n"}[x.pick(4)]
		most := 10 + x.pick(5)
		box, size := api.Rect{X0: pick(most), Y0: pick(most), X1: pick(most), Y1: pick(most)}, pick(most)
		want, wantErr := written(s, box, size)
		if got, e := look.Content(s, box, size); got != want || e != wantErr {
			t.Fatalf("Content(%q, %v, %d) = %q, %d, want %q, %d", s, box, size, got, e, want, wantErr)
		}
		errs[wantErr]++
	}
	if errs[api.OK] < 2000 || errs[api.ErrRange] < 2000 || errs[api.ErrArg] < 2000 {
		t.Errorf("the errors are %v", errs)
	}
}

// Promises 53.2, 53.4 and 53.5, by the words of the chapter.
func TestMakeAndFillByTheWords(t *testing.T) {
	x, makeErrs, fillErrs := mixer(53), map[api.Errno]int{}, map[api.Errno]int{}
	for _, d := range forms() {
		l, _ := field.Read(d)
		titles := []string{"nobody"}
		for _, f := range l {
			titles = append(titles, f.Name)
		}
		for _, title := range titles {
			want, wantErr := made(d, title)
			got, e := look.Make(d, title)
			if wrong := sample.Wrong(d, got, e, want, wantErr); wrong != "" {
				t.Fatalf("Make(%s, %q) is wrong: %s", brief(d), title, wrong)
			}
			makeErrs[e]++
			v := []string{"Yes", "Off", "Two Words", "", "a7Z", strings.Repeat("v", 4097-x.pick(2))}[x.pick(6)]
			f, _ := field.Find(l, title)
			if len(f.Choices) > 0 {
				v = f.Choices[x.pick(len(f.Choices))]
			}
			want, wantErr = filled(d, title, v)
			got, e = look.Fill(d, title, v)
			if e == api.OK {
				shows(t, d, got, f, v)
			}
			if wrong := sample.Wrong(d, got, e, want, wantErr); wrong != "" {
				t.Fatalf("Fill(%s, %q, %s) is wrong: %s", brief(d), title, brief(v), wrong)
			}
			fillErrs[e]++
		}
	}
	for _, e := range []api.Errno{api.OK, api.ErrNone, api.ErrField, api.ErrForm, api.ErrRange} {
		if makeErrs[e] < 20 || fillErrs[e] < 8 {
			t.Errorf("the errors are %v and %v", makeErrs, fillErrs)
		}
	}
	if makeErrs[api.OK] < 600 || fillErrs[api.OK] < 300 || fillErrs[api.ErrState] < 50 || fillErrs[api.ErrLong] < 20 {
		t.Errorf("the errors are %v and %v", makeErrs, fillErrs)
	}
}

// legible reports whether s has letters and digits only.
func legible(s string) bool {
	return !strings.ContainsFunc(s, func(c rune) bool {
		return (c < '0' || c > '9') && (c < 'A' || c > 'Z') && (c < 'a' || c > 'z')
	})
}

// shows checks what must hold after the field f of d got a value: what is read of it, and which items are another.
func shows(t *testing.T, d, got api.Doc, f api.Field, v string) {
	t.Helper()
	want := v
	if f.Kind == api.FieldCheck {
		want = map[bool]string{true: "X"}[v == "Yes"]
	}
	for _, num := range f.Shows {
		if s, e := look.Read(got, num); legible(v) && (s != want || e != api.OK) {
			t.Fatalf("after Fill(%s, %q, %s) item %d shows %s, %d", brief(d), f.Name, brief(v), num, brief(s), e)
		}
	}
	changed, gone := docs.Diff(d, got)
	if len(gone) > 0 {
		t.Errorf("the items %v are gone", gone)
	}
	last, owners := d.Items[len(d.Items)-1].Num, 0
	for _, i := range changed {
		if i.Num > last || slices.Contains(f.Shows, i.Num) {
			continue
		}
		// What is left is the field's own item, in which the value alone is another.
		owners++
		was, _ := docs.Get(d, i.Num)
		if !value.Same(value.Drop(was.Obj, "V"), value.Drop(i.Obj, "V")) || owners > 1 {
			t.Fatalf("Fill(%s, %q) has changed item %d", brief(d), f.Name, i.Num)
		}
	}
}

// Promise 53.3, by the words of the chapter.
func TestReadByTheWords(t *testing.T) {
	errs, letters := map[api.Errno]int{}, 0
	for _, d := range forms() {
		was := sample.Copy(d)
		for _, i := range append(slices.Clone(d.Items), api.Item{Num: 7777}) {
			want, wantErr := read(d, i.Num)
			if got, e := look.Read(d, i.Num); got != want || e != wantErr {
				t.Fatalf("Read(%s, %d) = %q, %d, want %q, %d", brief(d), i.Num, got, e, want, wantErr)
			}
			errs[wantErr]++
			letters += len(want)
			if len(d.Items) > 1000 {
				break
			}
		}
		if !docs.Same(d, was) {
			t.Fatalf("the document has changed: %s", brief(was))
		}
	}
	if errs[api.OK] < 500 || errs[api.ErrNone] < 500 || errs[api.ErrKind] < 500 || errs[api.ErrForm] < 10 || errs[api.ErrFilter] < 10 || letters < 1500 {
		t.Errorf("the errors are %v, and %d letters were read", errs, letters)
	}
}
