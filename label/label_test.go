package label_test

import (
	"fmt"
	"math"
	"slices"
	"strconv"
	"strings"
	"testing"

	"foliant/api"
	"foliant/catalog"
	"foliant/docs"
	"foliant/label"
	"foliant/sample"
	"foliant/value"
)

// brief shows the beginning of anything.
func brief(x any) string { return fmt.Sprintf("%.700s", fmt.Sprintf("%q", fmt.Sprint(x))) }

// item returns an item of generation 0.
func item(num int, o api.Object) api.Item { return api.Item{Num: num, Obj: o} }

// ref returns a reference of generation 0.
func ref(num int) api.Object { return sample.Ref(num, 0) }

// plain returns a label of decimal numbers from 1 on.
func plain(from int) api.Label { return api.Label{From: from, Style: "D", First: 1} }

// many returns so many labels.
func many(size int) []api.Label {
	var l []api.Label
	for i := range size {
		l = append(l, plain(i))
	}
	return l
}

// labelled returns a document with the given PageLabels, and items from number 2 on.
func labelled(o api.Object, list ...api.Object) api.Doc {
	d := sample.Doc(1, item(1, sample.Dict("Else", value.Int(7))))
	if o.Kind != api.KNull {
		d.Items[0].Obj = sample.Dict("Else PageLabels", value.Int(7), o)
	}
	for i, o := range list {
		d.Items = append(d.Items, item(2+i, o))
	}
	return d
}

// nums returns a dictionary as PageLabels.
func nums(list ...api.Object) api.Object { return sample.Dict("Nums", sample.Array(list...)) }

// Promise 38.3, by the example of the chapter, and the second one of 38.4.
func TestExample(t *testing.T) {
	l := []api.Label{{From: 0, Style: "r", First: 1}, {From: 2, Style: "D", First: 1}}
	var got []string
	for page := range 4 {
		got = append(got, label.Text(l, page))
	}
	if !slices.Equal(got, []string{"i", "ii", "1", "2"}) || label.Roman(1994) != "MCMXCIV" || label.Letters(28) != "BB" {
		t.Errorf("the pages are %v, 1994 is %s, and 28 is %s", got, label.Roman(1994), label.Letters(28))
	}
}

// Promise 38.1: labels of all forms.
func TestRead(t *testing.T) {
	zero, empty := value.Int(0), sample.Dict("")
	stream := api.Object{Kind: api.KStream, Keys: []string{"Nums"}, Kids: []api.Object{sample.Array(zero, empty)}}
	one := []api.Label{{First: 1}}
	long := strings.Repeat("p", 255)
	for i, c := range []struct {
		d    api.Doc
		want []api.Label
		err  api.Errno
	}{
		{labelled(value.Null()), nil, api.OK}, {labelled(ref(99)), nil, api.OK}, {labelled(ref(2), value.Null()), nil, api.OK},
		{labelled(nums()), nil, api.OK}, {labelled(nums(zero, empty)), one, api.OK}, {labelled(ref(2), nums(zero, empty)), one, api.OK}, {labelled(sample.Dict("Nums", ref(2)), sample.Array(zero, ref(3)), empty), one, api.OK}, {labelled(sample.Dict("Kids Nums", zero, ref(2)), sample.Array(zero, empty)), one, api.OK},
		{labelled(nums(zero, sample.Dict("P S St", value.String("p"), value.Name("D"), value.Int(5)), value.Int(3), sample.Dict("Else S", zero, value.Name("r")), value.Int(2047), sample.Dict("P St", value.String(long), value.Int(api.MaxInt)))), []api.Label{{Style: "D", Prefix: "p", First: 5}, {From: 3, Style: "r", First: 1}, {From: 2047, Prefix: long, First: api.MaxInt}}, api.OK},
		{labelled(nums(value.Int(4), sample.Dict("S", value.Name("R")), value.Int(5), sample.Dict("S", value.Name("A")), value.Int(7), sample.Dict("P S", value.String(""), value.Name("a")), value.Int(8), sample.Dict("S", value.Name("")))), []api.Label{{From: 4, Style: "R", First: 1}, {From: 5, Style: "A", First: 1}, {From: 7, Style: "a", First: 1}, {From: 8, First: 1}}, api.OK},
		{labelled(sample.Array()), nil, api.ErrForm}, {labelled(ref(2), stream), nil, api.ErrForm}, {labelled(value.Int(1)), nil, api.ErrForm}, {labelled(empty), nil, api.ErrForm}, {labelled(sample.Dict("Nums", empty)), nil, api.ErrForm}, {labelled(sample.Dict("Nums", ref(99))), nil, api.ErrForm}, {labelled(sample.Dict("nums", sample.Array())), nil, api.ErrForm},
		{labelled(nums(zero)), nil, api.ErrForm}, {labelled(nums(zero, empty, value.Int(1))), nil, api.ErrForm}, {labelled(nums(zero, zero)), nil, api.ErrForm}, {labelled(nums(zero, ref(99))), nil, api.ErrForm}, {labelled(nums(zero, ref(2)), stream), nil, api.ErrForm}, {labelled(nums(empty, zero)), nil, api.ErrForm}, {labelled(nums(ref(2), empty), zero), nil, api.ErrForm}, {labelled(nums(value.Real(0), empty)), nil, api.ErrForm}, {labelled(nums(value.Null(), empty)), nil, api.ErrForm},
		{labelled(nums(zero, sample.Dict("S", ref(2))), value.Name("D")), nil, api.ErrForm}, {labelled(nums(zero, sample.Dict("P", ref(2))), value.String("p")), nil, api.ErrForm}, {labelled(nums(zero, sample.Dict("St", ref(2))), value.Int(2)), nil, api.ErrForm}, {labelled(nums(zero, sample.Dict("St", ref(99)))), nil, api.ErrForm},
		{labelled(nums(zero, sample.Dict("S", value.String("D")))), nil, api.ErrForm}, {labelled(nums(zero, sample.Dict("P", value.Name("p")))), nil, api.ErrForm}, {labelled(nums(zero, sample.Dict("St", value.Real(10000)))), nil, api.ErrForm},
		{labelled(nums(zero, sample.Dict("S", value.Name("d")))), nil, api.ErrForm}, {labelled(nums(zero, sample.Dict("S", value.Name("DD")))), nil, api.ErrForm}, {labelled(nums(zero, sample.Dict("P", value.String(long+"p")))), nil, api.ErrForm}, {labelled(nums(zero, sample.Dict("St", zero))), nil, api.ErrForm}, {labelled(nums(zero, sample.Dict("St", value.Int(-1)))), nil, api.ErrForm},
		{labelled(nums(value.Int(-1), empty)), nil, api.ErrForm}, {labelled(nums(value.Int(api.MaxPages), empty)), nil, api.ErrForm}, {labelled(nums(zero, empty, zero, empty)), nil, api.ErrForm}, {labelled(nums(value.Int(2), empty, value.Int(1), empty)), nil, api.ErrForm}, {labelled(sample.Dict("Nums", sample.Array(slices.Repeat([]api.Object{zero, empty}, api.MaxPages+1)...))), nil, api.ErrForm},
	} {
		was := sample.Copy(c.d)
		if l, e := label.Read(c.d); !slices.Equal(l, c.want) || e != c.err || !docs.Same(c.d, was) {
			t.Errorf("Read %d = %v, %d, want %v, %d", i, l, e, c.want, c.err)
		}
	}
}

// Promise 38.1, by the words of the chapter.
func TestReadByTheWords(t *testing.T) {
	errs := map[api.Errno]int{}
	for _, d := range slices.Concat(sample.Books(), sample.Webs(), sample.Docs()) {
		want, wantErr := read(d)
		got, e := label.Read(d)
		if !slices.Equal(got, want) || e != wantErr {
			t.Errorf("Read(%s) = %v, %d, want %v, %d", brief(d), got, e, want, wantErr)
		}
		errs[e]++
		if len(got) > 0 {
			errs[-1]++
		}
	}
	if errs[-1] < 200 || errs[api.ErrForm] < 50 {
		t.Errorf("the errors are %v", errs)
	}
}

// read does what Read does, by the words of the chapter.
func read(d api.Doc) ([]api.Label, api.Errno) {
	o := docs.Path(d, d.Trailer, "Root", "PageLabels")
	list := docs.Path(d, o, "Nums")
	if o.Kind == api.KNull {
		return nil, api.OK
	}
	if o.Kind != api.KDict || list.Kind != api.KArray || len(list.Kids)%2 == 1 {
		return nil, api.ErrForm
	}
	var l []api.Label
	for i := 0; i < len(list.Kids); i += 2 {
		dict := docs.Follow(d, list.Kids[i+1])
		if list.Kids[i].Kind != api.KInt || dict.Kind != api.KDict {
			return nil, api.ErrForm
		}
		x := api.Label{From: int(list.Kids[i].N), First: 1}
		if s, ok := value.Get(dict, "S"); ok {
			if x.Style = s.S; s.Kind != api.KName {
				return nil, api.ErrForm
			}
		}
		if s, ok := value.Get(dict, "P"); ok {
			if x.Prefix = s.S; s.Kind != api.KString {
				return nil, api.ErrForm
			}
		}
		if s, ok := value.Get(dict, "St"); ok {
			if x.First = int(s.N); s.Kind != api.KInt {
				return nil, api.ErrForm
			}
		}
		l = append(l, x)
	}
	for i, x := range l {
		if !valid(x) || i > 0 && x.From <= l[i-1].From {
			return nil, api.ErrForm
		}
	}
	return l, api.OK
}

// valid reports whether a label by itself is valid.
func valid(x api.Label) bool {
	return x.From >= 0 && x.From < api.MaxPages && slices.Contains([]string{"", "D", "R", "r", "A", "a"}, x.Style) && len(x.Prefix) <= 255 && x.First >= 1 && x.First <= api.MaxInt
}

// Promise 38.1.
func TestCheck(t *testing.T) {
	long := strings.Repeat("p", 255)
	for i, c := range []struct {
		l    []api.Label
		want api.Errno
	}{
		{nil, api.OK}, {many(api.MaxPages), api.OK}, {many(api.MaxPages + 1), api.ErrMany}, {append([]api.Label{{From: -1}}, many(api.MaxPages)...), api.ErrMany},
		{[]api.Label{{First: 1}}, api.OK}, {[]api.Label{{From: 5, Style: "R", Prefix: long, First: api.MaxInt}, {From: 6, Style: "r", First: 2}, {From: 100, Style: "A", First: 1}, {From: 2046, Style: "a", First: 1}, {From: 2047, Style: "D", First: 1}}, api.OK},
		{[]api.Label{plain(-1)}, api.ErrArg}, {[]api.Label{plain(math.MinInt)}, api.ErrArg}, {[]api.Label{plain(api.MaxPages)}, api.ErrArg}, {[]api.Label{plain(math.MaxInt)}, api.ErrArg}, {[]api.Label{plain(1), plain(1)}, api.ErrArg}, {[]api.Label{plain(1), plain(3), plain(2)}, api.ErrArg}, {[]api.Label{plain(0), plain(0)}, api.ErrArg},
		{[]api.Label{{Style: "d", First: 1}}, api.ErrArg}, {[]api.Label{{Style: "Rr", First: 1}}, api.ErrArg}, {[]api.Label{{Style: " ", First: 1}}, api.ErrArg}, {[]api.Label{{Prefix: long + "p", First: 1}}, api.ErrArg},
		{[]api.Label{{}}, api.ErrArg}, {[]api.Label{{First: -1}}, api.ErrArg}, {[]api.Label{{First: api.MaxInt + 1}}, api.ErrArg}, {[]api.Label{plain(0), {From: 1}}, api.ErrArg},
	} {
		was := slices.Clone(c.l)
		if e := label.Check(c.l); e != c.want {
			t.Errorf("Check %d = %d, want %d", i, e, c.want)
		}
		d, _ := catalog.New(1)
		got, e := label.Set(d, c.l)
		if e != c.want || (e == api.OK) != (len(got.Items) > 0) || !slices.Equal(c.l, was) {
			t.Errorf("Set %d = %s, %d, want %d", i, brief(got), e, c.want)
		}
		if back, e := label.Read(got); c.want == api.OK && (!slices.Equal(back, c.l) || e != api.OK) {
			t.Errorf("Read after Set %d = %v, %d", i, back, e)
		}
		if s := label.Text(c.l, 2000); (s == "") != (c.want != api.OK || i == 4) {
			t.Errorf("Text %d = %q", i, s)
		}
	}
}

// Promises 38.2 and 38.5.
func TestSet(t *testing.T) {
	lists := [][]api.Label{nil, {{First: 1}}, {{From: 3, Style: "D", First: 1}}, {{Style: "r", Prefix: "p", First: 7}, {From: 9, Prefix: "\x00(", First: 1}, {From: 2047, Style: "a", First: api.MaxInt}}, many(4)}
	for n, d := range slices.Concat(sample.Books(), sample.Webs(), sample.Docs()) {
		l := lists[n%len(lists)]
		stored := value.Null()
		if len(l) > 0 {
			stored = nums()
		}
		for _, x := range l {
			entries := map[string]api.Object{}
			if x.Style != "" {
				entries["S"] = value.Name(x.Style)
			}
			if x.Prefix != "" {
				entries["P"] = value.String(x.Prefix)
			}
			if x.First != 1 {
				entries["St"] = value.Int(int64(x.First))
			}
			stored.Kids[0].Kids = append(stored.Kids[0].Kids, value.Int(int64(x.From)), sample.Entries(entries))
		}
		want, wantErr := catalog.SetRoot(d, "PageLabels", stored)
		got, e := label.Set(d, l)
		if back, readErr := label.Read(got); !slices.Equal(back, l) || readErr != api.OK {
			t.Errorf("Read after Set(%s, %v) = %v, %d", brief(d), l, back, readErr)
		}
		if wrong := sample.Wrong(d, got, e, want, wantErr); wrong != "" {
			t.Errorf("Set(%s, %v) is wrong: %s", brief(d), l, wrong)
		}
	}
}

// Promises 38.1 and 38.2: the errors, in their order.
func TestErrors(t *testing.T) {
	for i, b := range sample.BadDocs() {
		if l, e := label.Read(b.Is); len(l) > 0 || e != b.Err {
			t.Errorf("Read of document %d = %v, %d, want %d", i, l, e, b.Err)
		}
		for _, l := range [][]api.Label{nil, many(3), {{}}, many(api.MaxPages + 1)} {
			if d, e := label.Set(b.Is, l); len(d.Items) > 0 || d.Trailer.Kind != 0 || e != b.Err {
				t.Errorf("Set in document %d = %s, %d, want %d", i, brief(d), e, b.Err)
			}
		}
	}
	broad := sample.Doc(1, item(1, sample.Broad(api.MaxKids)))
	for _, c := range []struct {
		l    []api.Label
		want api.Errno
	}{{nil, api.OK}, {many(1), api.ErrMany}, {[]api.Label{{}}, api.ErrArg}} {
		if d, e := label.Set(broad, c.l); e != c.want || (e == api.OK) != (len(d.Items) > 0) {
			t.Errorf("Set of %v in a full catalog = %s, %d, want %d", c.l, brief(d), e, c.want)
		}
	}
}

// Promise 38.3.
func TestText(t *testing.T) {
	all := []api.Label{{From: 2, Style: "D", Prefix: "d-", First: 9}, {From: 5, Style: "R", First: 3998}, {From: 10, Style: "r", Prefix: "R", First: 3998}, {From: 15, Style: "A", First: 675}, {From: 20, Style: "a", Prefix: "x", First: 675}, {From: 25, Prefix: "only", First: 3}, {From: 30, First: 1}, {From: 35, Style: "D", First: api.MaxInt}}
	z, last := strings.Repeat("Z", 26), "2147483647"
	y := strings.Repeat("Y", 26)
	for _, c := range []struct {
		page int
		want string
	}{
		{0, "1"}, {1, "2"}, {2, "d-9"}, {4, "d-11"}, {5, "MMMCMXCVIII"}, {6, "MMMCMXCIX"}, {7, "4000"}, {9, "4002"}, {10, "Rmmmcmxcviii"}, {11, "Rmmmcmxcix"}, {12, "R4000"}, {15, y}, {16, z}, {17, "677"}, {20, "x" + strings.ToLower(y)}, {21, "x" + strings.ToLower(z)}, {22, "x677"}, {25, "only"}, {29, "only"}, {30, ""}, {34, ""}, {35, last}, {36, "2147483648"}, {api.MaxInt, strconv.FormatInt(2*api.MaxInt-35, 10)},
		{-1, ""}, {math.MinInt, ""}, {api.MaxInt + 1, ""}, {math.MaxInt, ""},
	} {
		if s := label.Text(all, c.page); s != c.want {
			t.Errorf("Text of page %d = %q, want %q", c.page, s, c.want)
		}
	}
	for page, want := range map[int]string{0: "1", 41: "42", api.MaxInt - 1: last, api.MaxInt: "2147483648", -1: "", api.MaxInt + 1: ""} {
		if s := label.Text(nil, page); s != want {
			t.Errorf("Text of page %d = %q, want %q", page, s, want)
		}
	}
	if s := label.Text([]api.Label{{Style: "r", First: api.MaxInt}}, api.MaxInt); s != strconv.FormatInt(2*api.MaxInt, 10) {
		t.Errorf("Text of the last page = %q", s)
	}
}

// Promises 38.4 and 38.5.
func TestRoman(t *testing.T) {
	known := map[int]string{1: "I", 2: "II", 3: "III", 4: "IV", 5: "V", 6: "VI", 8: "VIII", 9: "IX", 10: "X", 14: "XIV", 19: "XIX", 40: "XL", 44: "XLIV", 49: "XLIX", 50: "L", 88: "LXXXVIII", 90: "XC", 99: "XCIX", 100: "C", 400: "CD", 444: "CDXLIV", 500: "D", 900: "CM", 999: "CMXCIX", 1000: "M", 2026: "MMXXVI", 3888: "MMMDCCCLXXXVIII", 3999: "MMMCMXCIX"}
	ones, tens, hundreds := strings.Split(" I II III IV V VI VII VIII IX", " "), strings.Split(" X XX XXX XL L LX LXX LXXX XC", " "), strings.Split(" C CC CCC CD D DC DCC DCCC CM", " ")
	met := map[string]int{}
	for n := 1; n < 4000; n++ {
		want := strings.Repeat("M", n/1000) + hundreds[n/100%10] + tens[n/10%10] + ones[n%10]
		got := label.Roman(n)
		if got != want || met[got] > 0 || known[n] != "" && known[n] != got {
			t.Errorf("Roman(%d) = %q, want %q", n, got, want)
		}
		met[got] = n
	}
	for _, n := range []int{0, -1, 4000, math.MinInt, math.MaxInt} {
		if s := label.Roman(n); s != "" {
			t.Errorf("Roman(%d) = %q", n, s)
		}
	}
}

// Promises 38.4 and 38.5.
func TestLetters(t *testing.T) {
	met := map[string]int{}
	n := 0
	for times := 1; times <= 26; times++ {
		for c := 'A'; c <= 'Z'; c++ {
			n++
			got := label.Letters(n)
			if got != strings.Repeat(string(c), times) || met[got] > 0 {
				t.Errorf("Letters(%d) = %q", n, got)
			}
			met[got] = n
		}
	}
	for _, n := range []int{0, -1, -25, -26, 677, math.MinInt, math.MaxInt} {
		if s := label.Letters(n); s != "" {
			t.Errorf("Letters(%d) = %q", n, s)
		}
	}
}
