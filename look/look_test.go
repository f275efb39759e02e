package look_test

import (
	"fmt"
	"math"
	"slices"
	"strings"
	"testing"
	"time"

	"foliant/api"
	"foliant/catalog"
	"foliant/docs"
	"foliant/field"
	"foliant/look"
	"foliant/sample"
	"foliant/value"
)

// brief shows the beginning of anything.
func brief(x any) string { return fmt.Sprintf("%.700s", fmt.Sprintf("%q", fmt.Sprint(x))) }

// ref returns a reference of generation 0.
func ref(num int) api.Object { return sample.Ref(num, 0) }

// refs returns the array of references to numbers.
func refs(nums ...int) api.Object {
	o := sample.Array()
	for _, num := range nums {
		o.Kids = append(o.Kids, ref(num))
	}
	return o
}

// entries are those of a dictionary.
type entries map[string]api.Object

// dict returns the dictionary of entries, without those that are null.
func dict(e entries) api.Object { return sample.Entries(e) }

// name returns a name.
func name(s string) api.Object { return value.Name(s) }

// text returns a string.
func text(s string) api.Object { return value.String(s) }

// stream returns a stream of entries and data.
func stream(e entries, data string) api.Object {
	o := dict(e)
	o.Kind, o.S = api.KStream, data
	return o
}

// with returns a dictionary with another entry, or without it if that is null.
func with(o api.Object, key string, v api.Object) api.Object {
	o, e := value.Set(o, key, v)
	if e != api.OK {
		panic(e)
	}
	return o
}

// units returns a number of units of space in units of 1/10000.
func units(n float64) int64 { return int64(n * api.One) }

// rect returns the array of a box in units of 1/10000.
func rect(x0, y0, x1, y1 int64) api.Object {
	return sample.Array(value.Real(x0), value.Real(y0), value.Real(x1), value.Real(y1))
}

// usual is the box of the tests, 100 wide and 20 high.
func usual() api.Object { return rect(50*api.One, 70*api.One, 150*api.One, 90*api.One) }

// blank returns the dictionary of a text field that is called a, in the usual box, with other entries.
func blank(more entries) api.Object {
	all := entries{"T": text("a"), "FT": name("Tx"), "Rect": usual()}
	for key, o := range more {
		all[key] = o
	}
	return dict(all)
}

// formed returns a document of one page whose form has the fields that are the items 4 and so on up to so many, and more items after them.
func formed(count int, list ...api.Object) api.Doc {
	var nums []int
	for i := range count {
		nums = append(nums, 4+i)
	}
	d, _ := catalog.New(1)
	d.Items[0].Obj = with(d.Items[0].Obj, "AcroForm", dict(entries{"Fields": refs(nums...)}))
	for i, o := range list {
		d.Items = append(d.Items, api.Item{Num: 4 + i, Obj: o})
	}
	return d
}

// Promise 53.1, by the example of the chapter.
func TestExample(t *testing.T) {
	want := "/Tx BMC\nq\nBT\n/Helv 12.0 Tf\n0 g\n2.0 4.0 Td\n(a)Tj\nET\nQ\nEMC\n"
	if got, e := look.Content("a", api.Rect{X1: 100 * api.One, Y1: 20 * api.One}, 12*api.One); got != want || e != api.OK {
		t.Errorf("Content = %q, %d, want %q", got, e, want)
	}
}

// content returns the operators of a text, as the chapter lists them, of which some numbers and the string are given.
func content(size, y, shown string) string {
	return "/Tx BMC\nq\nBT\n/Helv " + size + " Tf\n0 g\n2.0 " + y + " Td\n" + shown + "Tj\nET\nQ\nEMC\n"
}

// Promise 53.1: contents.
func TestContent(t *testing.T) {
	long := strings.Repeat("l", api.MaxText)
	for _, c := range []struct {
		text string
		box  api.Rect
		size int64
		want string
	}{
		{"", api.Rect{}, 1, content("0.0001", "0.0", "()")},
		{"a", api.Rect{Y1: 1}, 1, content("0.0001", "0.0", "(a)")},
		// Halves are rounded up.
		{"a", api.Rect{Y1: 2}, 1, content("0.0001", "0.0001", "(a)")}, {"a", api.Rect{Y1: 3}, 1, content("0.0001", "0.0001", "(a)")}, {"a", api.Rect{Y1: 1}, 2, content("0.0002", "0.0", "(a)")}, {"a", api.Rect{}, 3, content("0.0003", "-0.0001", "(a)")}, {"a", api.Rect{}, 4, content("0.0004", "-0.0002", "(a)")}, {"a", api.Rect{}, 5, content("0.0005", "-0.0002", "(a)")},
		// The place of the box does not count, and its width neither.
		{"a", api.Rect{X0: -7, Y0: 300000, X1: -7, Y1: 500000}, 120000, content("12.0", "4.0", "(a)")}, {"a", api.Rect{X0: 9, Y0: -300000, X1: 500, Y1: -100000}, 120000, content("12.0", "4.0", "(a)")},
		{"a", api.Rect{X0: -api.MaxFix, Y0: -api.MaxFix, X1: api.MaxFix, Y1: api.MaxFix}, 1, content("0.0001", "107374.1824", "(a)")}, {"a", api.Rect{X0: -api.MaxFix, Y0: -api.MaxFix, X1: api.MaxFix, Y1: api.MaxFix}, 2, content("0.0002", "107374.1823", "(a)")}, {"a", api.Rect{}, api.MaxFix, content("107374.1824", "-53687.0912", "(a)")},
		{"a(b\\)\n\xff", api.Rect{Y1: 20 * api.One}, 10 * api.One, content("10.0", "5.0", `(a\(b\\\)\012\377)`)}, {long, api.Rect{}, 1, content("0.0001", "0.0", "("+long+")")},
	} {
		if got, e := look.Content(c.text, c.box, c.size); got != c.want || e != api.OK {
			t.Errorf("Content(%s, %v, %d) = %q, %d, want %q", brief(c.text), c.box, c.size, got, e, c.want)
		}
	}
}

// Promise 53.1: errors, in their order.
func TestContentErrors(t *testing.T) {
	long := strings.Repeat("l", api.MaxText+1)
	far, back := api.Rect{X1: api.MaxFix + 1}, api.Rect{X0: 1}
	for _, c := range []struct {
		text string
		box  api.Rect
		size int64
		want api.Errno
	}{
		{long, api.Rect{}, 1, api.ErrLong}, {long, far, 0, api.ErrLong}, {long, back, 0, api.ErrLong}, {"", far, 0, api.ErrRange}, {"", api.Rect{X0: 1, Y1: api.MaxFix + 1}, 0, api.ErrRange},
		{"", far, 1, api.ErrRange}, {"", api.Rect{X0: -api.MaxFix - 1}, 1, api.ErrRange}, {"", api.Rect{Y0: -api.MaxFix - 1}, 1, api.ErrRange}, {"", api.Rect{Y1: api.MaxFix + 1}, 1, api.ErrRange}, {"", api.Rect{X0: api.MaxFix + 1, X1: api.MaxFix + 2}, 1, api.ErrRange}, {"", api.Rect{X0: math.MinInt64, X1: math.MaxInt64}, 1, api.ErrRange}, {"", api.Rect{Y0: math.MinInt64, Y1: math.MaxInt64}, 1, api.ErrRange},
		{"", back, 1, api.ErrArg}, {"", api.Rect{Y0: 1}, 1, api.ErrArg}, {"", api.Rect{}, 0, api.ErrArg}, {"", api.Rect{}, -1, api.ErrArg}, {"", api.Rect{}, math.MinInt64, api.ErrArg}, {"", api.Rect{}, api.MaxFix + 1, api.ErrArg}, {"", api.Rect{}, math.MaxInt64, api.ErrArg},
	} {
		if got, e := look.Content(c.text, c.box, c.size); got != "" || e != c.want {
			t.Errorf("Content(%s, %v, %d) = %q, %d, want %d", brief(c.text), c.box, c.size, got, e, c.want)
		}
	}
}

// appearance returns the appearance of a text in a box of some width and height, as the chapter lists it, with the numbers and the string of its content.
func appearance(width, height int64, size, y, shown string) api.Object {
	font := dict(entries{"Font": dict(entries{"Helv": dict(entries{"BaseFont": name("Helvetica"), "Subtype": name("Type1"), "Type": name("Font")})})})
	return stream(entries{"BBox": rect(0, 0, width, height), "Resources": font, "Subtype": name("Form"), "Type": name("XObject")}, content(size, y, shown))
}

// dressed returns an item with an appearance.
func dressed(o api.Object, num int) api.Object { return with(o, "AP", dict(entries{"N": ref(num)})) }

// Promise 53.2: what is shown, and where.
func TestMake(t *testing.T) {
	check := entries{"FT": name("Btn"), "V": name("Yes")}
	box := func(o api.Object) entries { return entries{"V": text("v"), "Rect": o} }
	for i, c := range []struct {
		d api.Doc
		// made are the appearances that are added behind the last item, and shows the items that get them.
		made  []api.Object
		shows []int
	}{
		{formed(1, blank(nil)), []api.Object{appearance(100*api.One, 20*api.One, "12.0", "4.0", "()")}, []int{4}},
		{formed(1, blank(entries{"V": text("v")})), []api.Object{appearance(100*api.One, 20*api.One, "12.0", "4.0", "(v)")}, []int{4}},
		{formed(1, blank(entries{"V": name("Yes")})), []api.Object{appearance(100*api.One, 20*api.One, "12.0", "4.0", "(Yes)")}, []int{4}},
		{formed(1, blank(entries{"FT": name("Ch"), "V": text("Yes")})), []api.Object{appearance(100*api.One, 20*api.One, "12.0", "4.0", "(Yes)")}, []int{4}},
		// A check box shows whether it is checked.
		{formed(1, blank(check)), []api.Object{appearance(100*api.One, 20*api.One, "12.0", "4.0", "(X)")}, []int{4}}, {formed(1, blank(entries{"FT": name("Btn"), "V": text("Yes")})), []api.Object{appearance(100*api.One, 20*api.One, "12.0", "4.0", "(X)")}, []int{4}}, {formed(1, blank(entries{"FT": name("Btn"), "V": name("Off")})), []api.Object{appearance(100*api.One, 20*api.One, "12.0", "4.0", "()")}, []int{4}}, {formed(1, blank(entries{"FT": name("Btn"), "V": name("yes")})), []api.Object{appearance(100*api.One, 20*api.One, "12.0", "4.0", "()")}, []int{4}}, {formed(1, blank(entries{"FT": name("Btn")})), []api.Object{appearance(100*api.One, 20*api.One, "12.0", "4.0", "()")}, []int{4}},
		// The font is no higher than the box, but never without any height.
		{formed(1, blank(box(rect(0, 0, units(5), units(12))))), []api.Object{appearance(units(5), units(12), "12.0", "0.0", "(v)")}, []int{4}}, {formed(1, blank(box(rect(0, 0, units(5), units(12)-1)))), []api.Object{appearance(units(5), units(12)-1, "11.9999", "0.0", "(v)")}, []int{4}}, {formed(1, blank(box(rect(0, 0, units(5), units(12)+1)))), []api.Object{appearance(units(5), units(12)+1, "12.0", "0.0001", "(v)")}, []int{4}}, {formed(1, blank(box(rect(0, 0, 1, 1)))), []api.Object{appearance(1, 1, "0.0001", "0.0", "(v)")}, []int{4}}, {formed(1, blank(box(rect(7, 7, 7, 7)))), []api.Object{appearance(0, 0, "0.0001", "0.0", "(v)")}, []int{4}},
		{formed(1, blank(box(rect(-api.MaxFix, 0, 0, api.MaxFix)))), []api.Object{appearance(api.MaxFix, api.MaxFix, "12.0", "53681.0912", "(v)")}, []int{4}},
		// The corners come in any order, and by references.
		{formed(1, blank(box(rect(units(30), units(50), units(20), units(10))))), []api.Object{appearance(units(10), units(40), "12.0", "14.0", "(v)")}, []int{4}}, {formed(1, blank(box(ref(5))), sample.Array(value.Int(1), ref(6), value.Int(3), value.Int(24)), value.Int(2)), []api.Object{appearance(units(2), units(22), "12.0", "5.0", "(v)")}, []int{4}},
		// The first field of the name counts.
		{formed(3, blank(entries{"T": text("b")}), blank(entries{"V": text("v")}), blank(entries{"V": text("w")})), []api.Object{appearance(100*api.One, 20*api.One, "12.0", "4.0", "(v)")}, []int{5}},
		// Kids are shown each in its own box, in their order, with the field's own value.
		{formed(1, blank(entries{"V": text("v"), "Kids": refs(6, 5)}), dict(entries{"Rect": rect(0, 0, units(8), units(8)), "V": text("w")}), dict(entries{"Rect": usual()})), []api.Object{appearance(100*api.One, 20*api.One, "12.0", "4.0", "(v)"), appearance(8*api.One, 8*api.One, "8.0", "0.0", "(v)")}, []int{6, 5}},
		// The same kid twice gets two appearances, of which it keeps the second one.
		{formed(1, blank(entries{"V": text("v"), "Kids": refs(5, 6, 5)}), dict(entries{"Rect": usual()}), dict(entries{"Rect": rect(0, 0, units(8), units(8))})), []api.Object{appearance(100*api.One, 20*api.One, "12.0", "4.0", "(v)"), appearance(8*api.One, 8*api.One, "8.0", "0.0", "(v)"), appearance(100*api.One, 20*api.One, "12.0", "4.0", "(v)")}, []int{5, 6, 5}},
		{formed(1, blank(entries{"Kids": sample.Array()})), nil, nil},
		// An old appearance is replaced, whatever it is, and stays behind.
		{formed(1, blank(entries{"AP": dict(entries{"N": ref(5), "D": ref(5)})}), stream(nil, "")), []api.Object{appearance(100*api.One, 20*api.One, "12.0", "4.0", "()")}, []int{4}}, {formed(1, blank(entries{"AP": ref(5), "A": name("B")}), dict(entries{"N": ref(5)})), []api.Object{appearance(100*api.One, 20*api.One, "12.0", "4.0", "()")}, []int{4}},
		// A field that is read-only is shown like any other.
		{formed(1, blank(entries{"Ff": value.Int(1)})), []api.Object{appearance(100*api.One, 20*api.One, "12.0", "4.0", "()")}, []int{4}},
		{formed(1, blank(entries{"V": text(strings.Repeat("l", api.MaxText))})), []api.Object{appearance(100*api.One, 20*api.One, "12.0", "4.0", "("+strings.Repeat("l", api.MaxText)+")")}, []int{4}},
	} {
		want := sample.Copy(c.d)
		for n, num := range c.shows {
			last := len(want.Items) + 1
			want.Items[num-1].Obj = dressed(want.Items[num-1].Obj, last)
			want.Items = append(want.Items, api.Item{Num: last, Obj: c.made[n]})
		}
		got, e := look.Make(c.d, "a")
		if wrong := sample.Wrong(c.d, got, e, want, api.OK); wrong != "" {
			t.Errorf("Make %d is wrong: %s", i, wrong)
		}
	}
}

// Promise 53.2: generations and numbers.
func TestMakeNumbers(t *testing.T) {
	d := formed(1, blank(nil))
	d.Items[3].Num, d.Items[3].Gen = api.MaxNum-1, 7
	d.Items[0].Obj = with(d.Items[0].Obj, "AcroForm", dict(entries{"Fields": sample.Array(sample.Ref(api.MaxNum-1, 7))}))
	want := sample.Copy(d)
	want.Items[3].Obj = dressed(want.Items[3].Obj, api.MaxNum)
	want.Items = append(want.Items, api.Item{Num: api.MaxNum, Obj: appearance(100*api.One, 20*api.One, "12.0", "4.0", "()")})
	got, e := look.Make(d, "a")
	if wrong := sample.Wrong(d, got, e, want, api.OK); wrong != "" {
		t.Errorf("Make of the last number is wrong: %s", wrong)
	}
	got, e = look.Make(want, "a")
	if wrong := sample.Wrong(want, got, e, api.Doc{}, api.ErrFull); wrong != "" {
		t.Errorf("Make without a number is wrong: %s", wrong)
	}
}

// Promise 53.2: errors, in their order.
func TestMakeErrors(t *testing.T) {
	long := text(strings.Repeat("l", api.MaxText+1))
	wide, high := rect(-1, 0, api.MaxFix, 1), rect(0, -1, 1, api.MaxFix)
	broad := sample.Broad(api.MaxKids - 3)
	for i, key := range []string{"FT", "Rect", "T"} {
		o := []api.Object{name("Tx"), usual(), text("a")}[i]
		at, _ := slices.BinarySearch(broad.Keys, key)
		broad.Keys, broad.Kids = slices.Insert(broad.Keys, at, key), slices.Insert(broad.Kids, at, o)
	}
	full := func(d api.Doc) api.Doc {
		d.Items = append(d.Items, api.Item{Num: api.MaxNum})
		return d
	}
	kids := func(a, b entries) api.Doc {
		return formed(1, blank(entries{"V": text("v"), "Kids": refs(5, 6), "Rect": value.Null()}), dict(a), dict(b))
	}
	last := func(d api.Doc) api.Doc {
		d.Items = append(d.Items, api.Item{Num: api.MaxNum - 1})
		return d
	}
	for i, c := range []struct {
		d    api.Doc
		name string
		want api.Errno
	}{
		{formed(1, blank(nil)), "", api.ErrNone}, {formed(1, blank(nil)), "A", api.ErrNone}, {formed(0), "a", api.ErrNone}, {formed(1), "a", api.ErrField}, {formed(1), "b", api.ErrField}, {formed(2, blank(nil), blank(entries{"FT": value.Null()})), "a", api.ErrField},
		{formed(1, blank(entries{"Rect": value.Null()})), "a", api.ErrForm}, {formed(1, blank(entries{"Rect": ref(99)})), "a", api.ErrForm}, {formed(1, blank(entries{"Rect": ref(5)})), "a", api.ErrForm}, {formed(1, blank(entries{"Rect": name("A4")})), "a", api.ErrForm}, {formed(1, blank(entries{"Rect": sample.Array(value.Int(0), value.Int(0), value.Int(1))})), "a", api.ErrForm}, {formed(1, blank(entries{"Rect": sample.Array(value.Int(0), ref(99), value.Int(1), value.Int(1))})), "a", api.ErrForm}, {formed(1, blank(entries{"Rect": sample.Array(value.Int(0), value.Int(0), value.Int(api.MaxFix/api.One+1), value.Int(1))})), "a", api.ErrForm},
		{formed(1, blank(entries{"Rect": value.Null(), "V": long})), "a", api.ErrForm}, {formed(1, blank(entries{"V": long})), "a", api.ErrLong}, {formed(1, blank(entries{"V": long, "Rect": wide})), "a", api.ErrLong},
		{formed(1, blank(entries{"Rect": wide})), "a", api.ErrRange}, {formed(1, blank(entries{"Rect": high})), "a", api.ErrRange}, {full(formed(1, blank(entries{"Rect": wide}))), "a", api.ErrRange},
		{full(formed(1, blank(nil))), "a", api.ErrFull}, {full(formed(1, broad)), "a", api.ErrFull}, {formed(1, broad), "a", api.ErrMany},
		// The errors of an item come before those of the next one.
		{kids(entries{"Rect": wide}, entries{}), "a", api.ErrRange}, {kids(entries{}, entries{"Rect": wide}), "a", api.ErrForm}, {kids(entries{"Rect": usual()}, entries{"Rect": wide}), "a", api.ErrRange}, {kids(entries{"Rect": usual()}, entries{}), "a", api.ErrForm}, {last(kids(entries{"Rect": usual()}, entries{"Rect": usual()})), "a", api.ErrFull}, {last(kids(entries{"Rect": usual()}, entries{"Rect": wide})), "a", api.ErrRange}, {formed(1, blank(entries{"Kids": refs(5, 6)}), value.Drop(broad, "T"), dict(nil)), "a", api.ErrForm}, {formed(1, blank(entries{"Kids": refs(5, 6)}), with(value.Drop(broad, "T"), "Z", ref(1)), dict(nil)), "a", api.ErrMany},
		// The same item twice, of which the second time is one too many.
		{last(formed(1, blank(entries{"Kids": refs(5, 5)}), dict(entries{"Rect": usual()}))), "a", api.ErrFull},
	} {
		if docs.Check(c.d) != api.OK {
			t.Fatalf("document %d is not valid", i)
		}
		got, e := look.Make(c.d, c.name)
		if wrong := sample.Wrong(c.d, got, e, api.Doc{}, c.want); wrong != "" {
			t.Errorf("Make %d is wrong: %s", i, wrong)
		}
	}
	for i, b := range sample.BadDocs() {
		if got, e := look.Make(b.Is, "a"); !docs.Same(got, api.Doc{}) || e != b.Err {
			t.Errorf("Make of bad document %d = %v, %d, want %d", i, got, e, b.Err)
		}
		if got, e := look.Fill(b.Is, "a", "v"); !docs.Same(got, api.Doc{}) || e != b.Err {
			t.Errorf("Fill of bad document %d = %v, %d, want %d", i, got, e, b.Err)
		}
		if got, e := look.Read(b.Is, 1); got != "" || e != b.Err {
			t.Errorf("Read of bad document %d = %q, %d, want %d", i, got, e, b.Err)
		}
	}
}

// Promise 53.2: values are set, and then shown.
func TestFill(t *testing.T) {
	choice := entries{"FT": name("Ch"), "Opt": sample.Array(text("x"), text("y"))}
	for i, c := range []struct {
		d    api.Doc
		v    string
		want string
		err  api.Errno
	}{
		{formed(1, blank(nil)), "hi", "(hi)", api.OK}, {formed(1, blank(entries{"V": text("old")})), "", "()", api.OK}, {formed(1, blank(entries{"FT": name("Btn")})), "Yes", "(X)", api.OK}, {formed(1, blank(entries{"FT": name("Btn"), "V": name("Yes")})), "Off", "()", api.OK}, {formed(1, blank(choice)), "y", "(y)", api.OK},
		{formed(1, blank(entries{"FT": name("Btn")})), "hi", "", api.ErrNone}, {formed(1, blank(choice)), "z", "", api.ErrNone}, {formed(1, blank(entries{"Ff": value.Int(1)})), "hi", "", api.ErrState}, {formed(1, blank(nil)), strings.Repeat("l", api.MaxText+1), "", api.ErrLong}, {formed(1, blank(entries{"Rect": value.Null()})), "hi", "", api.ErrForm}, {formed(1, blank(entries{"Rect": value.Null(), "Ff": value.Int(1)})), "hi", "", api.ErrState}, {formed(1), "hi", "", api.ErrField}, {formed(1, blank(entries{"T": text("b")})), "hi", "", api.ErrNone},
	} {
		want := api.Doc{}
		if c.err == api.OK {
			want, _ = field.Set(c.d, "a", c.v)
			want.Items[3].Obj = dressed(want.Items[3].Obj, 5)
			want.Items = append(want.Items, api.Item{Num: 5, Obj: appearance(100*api.One, 20*api.One, "12.0", "4.0", c.want)})
		}
		got, e := look.Fill(c.d, "a", c.v)
		if wrong := sample.Wrong(c.d, got, e, want, c.err); wrong != "" {
			t.Errorf("Fill %d is wrong: %s", i, wrong)
		}
	}
}

// shown returns a document whose item 4 has an appearance of a content with the font F.
func shown(more entries, data string) api.Doc {
	all := entries{"Resources": dict(entries{"Font": dict(entries{"F": dict(entries{"BaseFont": name("N"), "Subtype": name("Type1")})})})}
	for key, o := range more {
		all[key] = o
	}
	return formed(0, dict(entries{"AP": dict(entries{"N": ref(5)})}), stream(all, data))
}

// Promise 53.3: what an appearance shows.
func TestRead(t *testing.T) {
	font := dict(entries{"Font": dict(entries{"F": dict(entries{"BaseFont": name("N"), "Subtype": name("Type1")})})})
	said := "BT /F 9 Tf (a\\(b) Tj [(c) 7 (d)] TJ ET"
	other := func(o api.Object, list ...api.Object) api.Doc { return formed(0, append([]api.Object{o}, list...)...) }
	for i, c := range []struct {
		d    api.Doc
		num  int
		want string
		err  api.Errno
	}{
		{shown(nil, said), 4, "a(bcd", api.OK}, {shown(nil, ""), 4, "", api.OK}, {shown(entries{"Filter": name("AHx")}, "710A51>"), 4, "", api.OK}, {shown(entries{"Resources": value.Null()}, "q Q"), 4, "", api.OK}, {shown(entries{"Resources": sample.Dict("")}, "q Q"), 4, "", api.OK},
		{other(dict(entries{"AP": ref(5)}), dict(entries{"N": ref(6)}), stream(entries{"Resources": ref(7)}, said), font), 4, "a(bcd", api.OK}, {other(dict(entries{"AP": ref(5)}), stream(entries{"N": ref(6)}, ""), stream(entries{"Resources": ref(7)}, said), font), 4, "a(bcd", api.OK},
		// No such item, one of another kind, and none with an appearance.
		{shown(nil, said), 6, "", api.ErrNone}, {shown(nil, said), 0, "", api.ErrNone}, {shown(nil, said), -1, "", api.ErrNone}, {shown(nil, said), math.MaxInt, "", api.ErrNone}, {shown(nil, said), math.MinInt, "", api.ErrNone}, {shown(nil, said), 5, "", api.ErrKind}, {other(refs(4)), 4, "", api.ErrKind}, {other(value.Null()), 4, "", api.ErrKind},
		{other(sample.Dict("")), 4, "", api.ErrNone}, {other(dict(entries{"AP": ref(99)})), 4, "", api.ErrNone}, {other(dict(entries{"AP": ref(5)}), stream(nil, said)), 4, "", api.ErrNone}, {other(dict(entries{"AP": sample.Dict("")})), 4, "", api.ErrNone}, {other(dict(entries{"AP": dict(entries{"N": ref(99)})})), 4, "", api.ErrNone}, {other(dict(entries{"AP": dict(entries{"N": ref(5)})}), dict(entries{"N": ref(6)}), stream(nil, "")), 4, "", api.ErrNone}, {other(dict(entries{"AP": dict(entries{"D": ref(5)})}), stream(nil, "")), 4, "", api.ErrNone},
		// The filter, the resources, and the content.
		{shown(entries{"Filter": name("AHx")}, "7x>"), 4, "", api.ErrForm}, {shown(entries{"Filter": name("None")}, said), 4, "", api.ErrFilter}, {shown(entries{"Filter": name("None"), "Resources": name("R")}, said), 4, "", api.ErrFilter},
		{shown(entries{"Resources": ref(99)}, ""), 4, "", api.ErrKind}, {shown(entries{"Resources": name("R")}, ""), 4, "", api.ErrKind}, {shown(entries{"Resources": ref(5)}, ""), 4, "", api.ErrKind}, {shown(entries{"Resources": name("R")}, "BT"), 4, "", api.ErrKind},
		{shown(nil, "BT"), 4, "", api.ErrState}, {shown(nil, "x"), 4, "", api.ErrOp}, {shown(nil, "1"), 4, "", api.ErrEnd}, {shown(nil, said+" Q"), 4, "", api.ErrState}, {shown(entries{"Resources": value.Null()}, said), 4, "", api.ErrFont},
	} {
		was := sample.Copy(c.d)
		if docs.Check(c.d) != api.OK {
			t.Fatalf("document %d is not valid", i)
		}
		if got, e := look.Read(c.d, c.num); got != c.want || e != c.err {
			t.Errorf("Read %d = %q, %d, want %q, %d", i, got, e, c.want, c.err)
		}
		if !docs.Same(c.d, was) {
			t.Errorf("Read %d has changed the document", i)
		}
	}
}

// P5: a field that is shown thousands of times, by one item and by many.
func TestTakesNoLonger(t *testing.T) {
	begin := time.Now()
	heavy := entries{"Rect": usual(), "Data": sample.Array(slices.Repeat([]api.Object{sample.Wide(api.MaxKids)}, 40)...)}
	nums := slices.Repeat([]int{5}, api.MaxNum-6)
	d := formed(1, blank(entries{"Kids": refs(nums...)}), dict(heavy), value.Null())
	got, e := look.Fill(d, "a", strings.Repeat("(", api.MaxText))
	if s, readErr := look.Read(got, 5); len(got.Items) != api.MaxNum || e != api.OK || len(s) != api.MaxText || readErr != api.OK {
		t.Errorf("Fill = %d items, %d, and Read = %s, %d", len(got.Items), e, brief(s), readErr)
	}
	nums = nil
	var kids []api.Object
	for i := range 4000 {
		nums = append(nums, 5+i)
		kids = append(kids, dict(entries{"Rect": usual()}))
	}
	d = formed(1, append([]api.Object{blank(entries{"Kids": refs(nums...)})}, kids...)...)
	got, e = look.Fill(d, "a", "v")
	if s, readErr := look.Read(got, 4004); len(got.Items) != 8004 || e != api.OK || s != "v" || readErr != api.OK {
		t.Errorf("Fill = %d items, %d, and Read = %q, %d", len(got.Items), e, s, readErr)
	}
	if time.Since(begin) > 10*time.Second {
		t.Errorf("it took %v", time.Since(begin))
	}
}
