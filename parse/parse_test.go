package parse_test

import (
	"fmt"
	"slices"
	"strings"
	"testing"

	"foliant/api"
	"foliant/parse"
	"foliant/sample"
	"foliant/value"
	"foliant/write"
)

// brief shows the beginning of anything.
func brief(x any) string { return fmt.Sprintf("%.200s", fmt.Sprintf("%q", fmt.Sprint(x))) }

// checkObject holds what Object answers against what it should answer.
func checkObject(t *testing.T, s string, at int, want api.Object, wantTo int, wantErr api.Errno) {
	t.Helper()
	got, to, e := parse.Object(s, at)
	if !value.Same(got, want) || to != wantTo || e != wantErr {
		t.Errorf("Object(%s, %d) = %s, %d, %d, want %s, %d, %d", brief(s), at, brief(got), to, e, brief(want), wantTo, wantErr)
	}
}

// Promise 6.1.
func TestObjectReads(t *testing.T) {
	num, ref := value.Int, value.Ref
	for _, c := range []struct {
		s    string
		want api.Object
		to   int
	}{
		{"1 0 R", ref(1, 0), 5},
		{" %x\n 1%\n+0 R/A", ref(1, 0), 12},
		{"8191 65535 R", ref(8191, 65535), 12},
		{"1 -0 R", ref(1, 0), 6},
		{"8192 0 R", num(8192), 4},
		{"0 0 R", num(0), 1},
		{"-1 0 R", num(-1), 2},
		{"1 65536 R", num(1), 1},
		{"1 -1 R", num(1), 1},
		{"1 0 r", num(1), 1},
		{"1 0 RR", num(1), 1},
		{"1 0 /R", num(1), 1},
		{"1 0. R", num(1), 1},
		{"1. 0 R", value.Real(10000), 2},
		{"1", num(1), 1},
		{"1 ", num(1), 1},
		{"1 0", num(1), 1},
		{"1 )", num(1), 1},
		{"1 0 )", num(1), 1},
		{"1 0 (", num(1), 1},
		{"1 9999999999 R", num(1), 1},
		{"[1 0 R 2 0]", value.Array(ref(1, 0), num(2), num(0)), 11},
		{"[1 2 0 R]", value.Array(num(1), ref(2, 0)), 9},
		{"[1 2 0 R 3]x", value.Array(num(1), ref(2, 0), num(3)), 11},
		{"[0 1 2 R]", value.Array(num(0), ref(1, 2)), 9},
		{"true", value.Bool(true), 4},
		{"false]", value.Bool(false), 5},
		{"null null", value.Null(), 4},
		{"(a)(b)", value.String("a"), 3},
		{"<61>", value.String("a"), 4},
		{"/A/B", value.Name("A"), 2},
		{"/ ", value.Name(""), 1},
		{"-.5", value.Real(-5000), 3},
		{"[]", value.Array(), 2},
		{"<<>>", sample.Dict(""), 4},
		{"[null true[]<<>>]", value.Array(value.Null(), value.Bool(true), value.Array(), sample.Dict("")), 17},
		{"<</B 1/A null>>", sample.Dict("B", num(1)), 15},
		{"<</b 1/B 2/a 3/A/B>>", sample.Dict("A B a b", value.Name("B"), num(2), num(3), num(1)), 20},
		{"<< / 1 /#41 2 0 R >>", api.Object{Kind: api.KDict, Keys: []string{"", "A"}, Kids: []api.Object{num(1), ref(2, 0)}}, 20},
		{"<</A null/B null>>", sample.Dict(""), 18},
		{"<</A<</A 1>>/B[<</A 2>>]>>", sample.Dict("A B", sample.Dict("A", num(1)), value.Array(sample.Dict("A", num(2)))), 26},
	} {
		checkObject(t, c.s, 0, c.want, c.to, api.OK)
		checkObject(t, "] >"+c.s, 3, c.want, c.to+3, api.OK)
	}
}

// Promise 6.1.
func TestObjectRefuses(t *testing.T) {
	for _, c := range []struct {
		s    string
		want api.Errno
	}{
		{"", api.ErrEnd}, {" % x", api.ErrEnd}, {"[", api.ErrEnd}, {"[1", api.ErrEnd}, {"[1 0", api.ErrEnd}, {"<<", api.ErrEnd}, {"<</A", api.ErrEnd}, {"<</A 1", api.ErrEnd},
		{"[[]", api.ErrEnd}, {"[<</A[", api.ErrEnd}, {"(a", api.ErrEnd}, {"[(a)(b", api.ErrEnd},
		{"R", api.ErrForm}, {"x", api.ErrForm}, {"True", api.ErrForm}, {"obj", api.ErrForm}, {"]", api.ErrForm}, {">>", api.ErrForm}, {"{", api.ErrForm}, {"}", api.ErrForm},
		{"[R", api.ErrForm}, {"[1 0 R R]", api.ErrForm}, {"[0 0 R]", api.ErrForm}, {"[>>", api.ErrForm}, {"[{", api.ErrForm}, {"[1 0 x", api.ErrForm},
		{"<<]", api.ErrForm}, {"<<1 2>>", api.ErrForm}, {"<<(A) 1>>", api.ErrForm}, {"<<A 1>>", api.ErrForm}, {"<<[", api.ErrForm}, {"<<null", api.ErrForm},
		{"<</A>>", api.ErrForm}, {"<</A]", api.ErrForm}, {"<</A 1 2>>", api.ErrForm}, {"<</A R", api.ErrForm}, {"<</A 0 0 R>>", api.ErrForm},
		{")", api.ErrForm}, {"[)", api.ErrForm}, {"[1 0 )", api.ErrForm}, {"[1 )", api.ErrForm}, {"<</A )", api.ErrForm}, {"<<)", api.ErrForm}, {"/#0", api.ErrForm}, {"<</#0 1>>", api.ErrForm},
		{"[1 0 (", api.ErrEnd}, {"[1 (", api.ErrEnd}, {"2147483648", api.ErrRange}, {"[1 0 2147483648]", api.ErrRange}, {"[1 2147483648 R]", api.ErrRange}, {"107375.0", api.ErrRange},
		{"/" + strings.Repeat("n", 128), api.ErrLong}, {"[" + strings.Repeat("x", 128), api.ErrLong}, {"(" + strings.Repeat("n", api.MaxString+1) + ")", api.ErrLong},
		{"<</A 1/A null>>", api.ErrTwice}, {"<</A null/A null>>", api.ErrTwice}, {"<</A 1/B 2/#41", api.ErrTwice}, {"<</A 1/A)", api.ErrTwice}, {"<</A[/A)", api.ErrForm}, {"[<</A 1/A 1", api.ErrTwice},
	} {
		checkObject(t, c.s, 0, api.Object{}, 0, c.want)
		checkObject(t, "[/A"+c.s, 3, api.Object{}, 0, c.want)
	}
	for _, at := range []int{-1, -1 << 62, 3, 1 << 62} {
		checkObject(t, "1 ", at, api.Object{}, 0, api.ErrArg)
	}
	checkObject(t, "1 ", 2, api.Object{}, 0, api.ErrEnd)
}

// Promise 6.1: how deep objects may be nested.
func TestObjectDepth(t *testing.T) {
	arrays := strings.Repeat("[", api.MaxDepth)
	dicts := strings.Repeat("<</A", api.MaxDepth-1) + "<<"
	for _, c := range []struct {
		s    string
		want api.Errno
	}{
		{arrays[1:] + "1", api.ErrEnd},
		{arrays + "]", api.ErrEnd},
		{arrays + "1", api.ErrDeep}, {arrays + "null", api.ErrDeep}, {arrays + "[", api.ErrDeep}, {arrays + "<<", api.ErrDeep}, {arrays + "()", api.ErrDeep},
		{arrays + "/A", api.ErrDeep}, {arrays + "1.", api.ErrDeep}, {arrays + "true", api.ErrDeep}, {arrays + "1 0 R", api.ErrDeep},
		{arrays + "R", api.ErrForm}, {arrays + ">>", api.ErrForm}, {arrays + ")", api.ErrForm}, {arrays + "(", api.ErrEnd}, {arrays, api.ErrEnd},
		{dicts + "/A null", api.ErrDeep}, {dicts + "/A 1", api.ErrDeep}, {dicts + "/A>>", api.ErrForm}, {dicts + "/A", api.ErrEnd}, {dicts + "1", api.ErrForm},
		{dicts + ">>/A 1/A", api.ErrTwice},
		{arrays[1:] + "1]]2" + arrays[2:] + "[3", api.ErrDeep},
	} {
		checkObject(t, c.s, 0, api.Object{}, 0, c.want)
	}
	for _, s := range []string{arrays + strings.Repeat("]", api.MaxDepth), dicts + strings.Repeat(">>", api.MaxDepth), arrays[1:] + "null" + strings.Repeat("]", api.MaxDepth-1)} {
		o, to, e := parse.Object(s, 0)
		if e != api.OK || to != len(s) || value.Depth(o) != api.MaxDepth {
			t.Errorf("Object(%s) = %s, %d, %d", brief(s), brief(o), to, e)
		}
	}
}

// Promise 6.1: how many elements and keys there may be.
func TestObjectMany(t *testing.T) {
	full := "[" + strings.Repeat("null ", api.MaxKids)
	refs := "[" + strings.Repeat("7 1 R ", api.MaxKids)
	var keys strings.Builder
	for _, key := range sample.Broad(api.MaxKids).Keys {
		keys.WriteString("/" + key + " null")
	}
	dict := "<<" + keys.String()
	for _, c := range []struct {
		s    string
		want api.Errno
	}{
		{full + "1", api.ErrMany}, {full + "null", api.ErrMany}, {full + "[", api.ErrMany}, {full + "<<", api.ErrMany}, {full + "(x)", api.ErrMany},
		{full + "R", api.ErrForm}, {full + ")", api.ErrForm}, {full + ">>", api.ErrForm}, {full, api.ErrEnd}, {full + "(", api.ErrEnd},
		{refs + "1", api.ErrMany}, {refs + "1 0 R", api.ErrMany},
		{dict + "/A", api.ErrMany}, {dict + "/A)", api.ErrMany}, {dict + "/K00000", api.ErrTwice}, {dict + "/K08190 1", api.ErrTwice},
		{dict + "1", api.ErrForm}, {dict + "/#0", api.ErrForm}, {dict, api.ErrEnd}, {dict + "]", api.ErrForm},
	} {
		checkObject(t, c.s, 0, api.Object{}, 0, c.want)
	}
	checkObject(t, full+"]", 0, api.Object{Kind: api.KArray, Kids: make([]api.Object, api.MaxKids)}, len(full)+1, api.OK)
	checkObject(t, refs+"]", 0, api.Object{Kind: api.KArray, Kids: slices.Repeat([]api.Object{value.Ref(7, 1)}, api.MaxKids)}, len(refs)+1, api.OK)
	checkObject(t, dict+">>", 0, sample.Dict(""), len(dict)+2, api.OK)
	numbers := strings.ReplaceAll(dict, "null", " 1 0 R") + ">>"
	if o, _, e := parse.Object(numbers, 0); e != api.OK || len(o.Keys) != api.MaxKids || value.Check(o) != api.OK {
		t.Errorf("a full dictionary has the error %d", e)
	}
}

// alphabet returns tokens that all ends of the grammar meet.
func alphabet() []string {
	return []string{"1", "0", "R", "[", "]", "<<", ">>", "/A", "/B", "null", "x", ")"}
}

// grammar parses the object that begins list, by the words of the chapter, and returns how many tokens it has.
func grammar(list []string) (api.Object, int, api.Errno) {
	if len(list) == 0 {
		return api.Object{}, 0, api.ErrEnd
	}
	switch list[0] {
	case "1":
		if len(list) > 2 && (list[1] == "0" || list[1] == "1") && list[2] == "R" {
			return value.Ref(1, int(list[1][0]-'0')), 3, api.OK
		}
		return value.Int(1), 1, api.OK
	case "0":
		return value.Int(0), 1, api.OK
	case "/A", "/B":
		return value.Name(list[0][1:]), 1, api.OK
	case "null":
		return value.Null(), 1, api.OK
	case "[":
		return arrayGrammar(list)
	case "<<":
		return dictGrammar(list)
	}
	return api.Object{}, 0, api.ErrForm
}

func arrayGrammar(list []string) (api.Object, int, api.Errno) {
	o := value.Array()
	for n := 1; ; {
		if n < len(list) && list[n] == "]" {
			return o, n + 1, api.OK
		}
		kid, used, e := grammar(list[n:])
		if e != api.OK {
			return api.Object{}, 0, e
		}
		o.Kids = append(o.Kids, kid)
		n += used
	}
}

func dictGrammar(list []string) (api.Object, int, api.Errno) {
	a, b, seen := value.Null(), value.Null(), ""
	for n := 1; ; {
		switch {
		case n == len(list):
			return api.Object{}, 0, api.ErrEnd
		case list[n] == ">>":
			o, e := value.Dict(value.Name("B"), b, value.Name("A"), a)
			return o, n + 1, e
		case list[n] != "/A" && list[n] != "/B":
			return api.Object{}, 0, api.ErrForm
		case strings.Contains(seen, list[n]):
			return api.Object{}, 0, api.ErrTwice
		}
		v, used, e := grammar(list[n+1:])
		if e != api.OK {
			return api.Object{}, 0, e
		}
		if seen += list[n]; list[n] == "/A" {
			a = v
		} else {
			b = v
		}
		n += 1 + used
	}
}

// Promises 6.1 to 6.4, for all texts of up to five tokens.
func TestAllShortTexts(t *testing.T) {
	words := alphabet()
	lists := [][]string{nil}
	for range 5 {
		var longer [][]string
		for _, list := range lists {
			checkText(t, list)
			for _, word := range words {
				longer = append(longer, append(slices.Clip(list), word))
			}
		}
		lists = longer
	}
	for i := range lists {
		checkText(t, lists[i])
	}
}

func checkText(t *testing.T, list []string) {
	text := strings.Join(list, " ")
	o, used, e := grammar(list)
	to := len(strings.Join(list[:used], " "))
	checkObject(t, text, 0, o, to, e)
	if e == api.OK && value.Check(o) != api.OK {
		t.Errorf("%q is parsed as an object that is not valid", text)
	}
	whole, wholeErr := parse.Whole(text)
	switch {
	case e == api.OK && used < len(list):
		e = api.ErrForm
		fallthrough
	case e != api.OK:
		o = api.Object{}
	}
	if !value.Same(whole, o) || wholeErr != e {
		t.Errorf("Whole(%q) = %s, %d", text, brief(whole), wholeErr)
	}
	var all []api.Object
	fault := api.Fault{}
	for at := 0; at < len(text); {
		o, to, e := parse.Object(text, at)
		if e != api.OK {
			all, fault = nil, api.Fault{At: at, Err: e}
			break
		}
		all = append(all, o)
		at = to + 1
	}
	many, f := parse.Many(text)
	if f != fault || !slices.EqualFunc(many, all, value.Same) {
		t.Errorf("Many(%q) = %s, %v, want %s, %v", text, brief(many), f, brief(all), fault)
	}
}

// Promise 6.2.
func TestWhole(t *testing.T) {
	for _, c := range []struct {
		s    string
		want api.Object
		err  api.Errno
	}{
		{" [1] % x", value.Array(value.Int(1)), api.OK},
		{"1 0 R\n", value.Ref(1, 0), api.OK},
		{"", api.Object{}, api.ErrEnd},
		{"x", api.Object{}, api.ErrForm},
		{"0 0 R", api.Object{}, api.ErrForm},
		{"1 2", api.Object{}, api.ErrForm},
		{"[]]", api.Object{}, api.ErrForm},
		{"[](", api.Object{}, api.ErrEnd},
		{"[]>", api.Object{}, api.ErrForm},
		{"[]99999999999", api.Object{}, api.ErrRange},
		{"1 /" + strings.Repeat("n", 128), api.Object{}, api.ErrLong},
	} {
		if got, e := parse.Whole(c.s); !value.Same(got, c.want) || e != c.err {
			t.Errorf("Whole(%q) = %s, %d, want %d", c.s, brief(got), e, c.err)
		}
	}
}

// Promise 6.2.
func TestMany(t *testing.T) {
	full := strings.Repeat("1 0 R ", api.MaxKids)
	for _, c := range []struct {
		s     string
		count int
		want  api.Fault
	}{
		{"", 0, api.Fault{}},
		{" % x", 0, api.Fault{}},
		{"1 0 R 2[3]%x", 3, api.Fault{}},
		{"1 %x\n R", 0, api.Fault{At: 6, Err: api.ErrForm}},
		{"/A  [1 R", 0, api.Fault{At: 4, Err: api.ErrForm}},
		{"/A [1", 0, api.Fault{At: 3, Err: api.ErrEnd}},
		{"/A\n(", 0, api.Fault{At: 3, Err: api.ErrEnd}},
		{"<</A 1/A 1>> x", 0, api.Fault{Err: api.ErrTwice}},
		{full, api.MaxKids, api.Fault{}},
		{full + "%", api.MaxKids, api.Fault{}},
		{full + " 1", 0, api.Fault{At: len(full) + 1, Err: api.ErrMany}},
		{full + "%\nR", 0, api.Fault{At: len(full) + 2, Err: api.ErrMany}},
		{full + "]", 0, api.Fault{At: len(full), Err: api.ErrMany}},
		{full + "[x", 0, api.Fault{At: len(full), Err: api.ErrMany}},
		{full + " )", 0, api.Fault{At: len(full) + 1, Err: api.ErrForm}},
		{full + " (", 0, api.Fault{At: len(full) + 1, Err: api.ErrEnd}},
		{full + " 9999999999", 0, api.Fault{At: len(full) + 1, Err: api.ErrRange}},
		{full[6:] + " R", 0, api.Fault{At: len(full) - 5, Err: api.ErrForm}},
		{full[6:] + "2 2", 0, api.Fault{At: len(full) - 4, Err: api.ErrMany}},
	} {
		list, f := parse.Many(c.s)
		if len(list) != c.count || f != c.want {
			t.Errorf("Many(%s) = %d objects, %v, want %v", brief(c.s), len(list), f, c.want)
		}
	}
}

// Promise 6.3.
func TestParsedTextIsTheObject(t *testing.T) {
	for i, o := range sample.Objects() {
		text, e := write.Text(o)
		if e != api.OK {
			t.Fatalf("object %d has no text", i)
		}
		got, e := parse.Whole(text)
		if e != api.OK || !value.Same(got, o) {
			t.Errorf("object %d is parsed as %s, %d", i, brief(got), e)
		}
		for _, rest := range []string{" ", "\n)", "\t(", "\x00/A", "\rR", "\f0", " 0 x", " 99999999999"} {
			checkObject(t, "x "+text+rest, 2, o, 2+len(text), api.OK)
		}
	}
}
