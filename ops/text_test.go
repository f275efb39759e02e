package ops_test

import (
	"slices"
	"strings"
	"testing"

	"foliant/api"
	"foliant/ops"
	"foliant/sample"
	"foliant/value"
)

// Promise 43.2: the text of operators.
func TestText(t *testing.T) {
	one, half, a := value.Int(1), value.Real(5000), value.String("a")
	for i, c := range []struct {
		l    []api.Op
		want string
	}{
		{nil, ""}, {[]api.Op{op("q")}, "q\n"}, {[]api.Op{op("q"), op("Q")}, "q\nQ\n"}, {[]api.Op{op("rg", one, half, value.Real(10000))}, "1 0.5 1.0 rg\n"}, {[]api.Op{op("Tj", a)}, "(a)Tj\n"}, {[]api.Op{op("\"", one, value.Int(-2), value.String("("))}, "1 -2(\\()\"\n"},
		{[]api.Op{op("BMC", value.Name("A b"))}, "/A#20b BMC\n"}, {[]api.Op{op("BMC", value.Name(""))}, "/ BMC\n"}, {[]api.Op{op("x", value.Name(""), one)}, "/ 1 x\n"}, {[]api.Op{op("TJ", sample.Array(a, one, a))}, "[(a)1(a)]TJ\n"}, {[]api.Op{op("x", sample.Dict("A B", one, sample.Array()))}, "<</A 1/B[]>>x\n"}, {[]api.Op{op("x", value.Null(), value.Bool(true), value.Bool(false))}, "null true false x\n"}, {[]api.Op{op("1.2.3", value.Int(1))}, "1 1.2.3\n"},
		{[]api.Op{op(strings.Repeat("w", api.MaxName))}, strings.Repeat("w", 127) + "\n"}, {[]api.Op{op("x", slices.Repeat([]api.Object{one}, api.MaxArgs)...)}, strings.Repeat("1 ", 32) + "x\n"}, {slices.Repeat([]api.Op{op("q")}, api.MaxOps), strings.Repeat("q\n", 8191)}, {[]api.Op{op("x", nest(sample.Array(), api.MaxDepth-1))}, strings.Repeat("[", 24) + strings.Repeat("]", 24) + "x\n"},
		{[]api.Op{image("", "")}, "BI ID\n\nEI\n"}, {[]api.Op{image("a", "")}, "BI ID\na\nEI\n"}, {[]api.Op{image("a\x00(", "H W", one, value.Name("x"))}, "BI/H 1/W/x ID\na\x00(\nEI\n"}, {[]api.Op{image("a", "A b", a, sample.Array(one))}, "BI/A(a)/b[1]ID\na\nEI\n"}, {[]api.Op{{Name: "BI", Args: []api.Object{{Kind: api.KDict, Keys: []string{"", "a b"}, Kids: []api.Object{one, value.Name("")}}}}}, "BI/ 1/a#20b/ ID\n\nEI\n"},
		{[]api.Op{image("EI", ""), op("q"), image("EI EIb aEI \n", "")}, "BI ID\nEI\nEI\nq\nBI ID\nEI EIb aEI \n\nEI\n"},
	} {
		if s, e := ops.Text(c.l); s != c.want || e != api.OK {
			t.Errorf("Text %d = %s, %d, want %s", i, brief(s), e, brief(c.want))
		}
		if l, f := ops.Read(c.want); !sameOps(l, c.l) || f != (api.Fault{}) {
			t.Errorf("Read after Text %d = %s, %v", i, brief(l), f)
		}
	}
}

// Promise 43.2: operators that are not valid.
func TestTextErrors(t *testing.T) {
	one, dict := value.Int(1), sample.Dict("")
	stream := api.Object{Kind: api.KStream}
	badName := func(name string) api.Op { return op(name) }
	for i, c := range []struct {
		o    api.Op
		want api.Errno
	}{
		{badName(""), api.ErrForm}, {badName(" "), api.ErrForm}, {badName("a b"), api.ErrForm}, {badName(" a"), api.ErrForm}, {badName("a "), api.ErrForm}, {badName("a\n"), api.ErrForm}, {badName("%\na"), api.ErrForm}, {badName("a%"), api.ErrForm}, {badName("a/b"), api.ErrForm}, {badName("/a"), api.ErrForm}, {badName("(a)"), api.ErrForm}, {badName("["), api.ErrForm}, {badName("{"), api.ErrForm}, {badName("<<"), api.ErrForm}, {badName("<61>"), api.ErrForm}, {badName(")"), api.ErrForm}, {badName("a\x00"), api.ErrForm},
		{badName("1"), api.ErrForm}, {badName("-1"), api.ErrForm}, {badName("1.5"), api.ErrForm}, {badName("."), api.OK}, {badName("99999999999"), api.ErrForm}, {badName("999999.5"), api.ErrForm}, {badName(strings.Repeat("w", api.MaxName+1)), api.ErrForm},
		{badName("true"), api.ErrForm}, {badName("false"), api.ErrForm}, {badName("null"), api.ErrForm}, {badName("R"), api.ErrForm}, {badName("ID"), api.ErrForm}, {badName("EI"), api.ErrForm}, {badName("BI"), api.ErrForm}, {badName("\xff\x01"), api.OK}, {badName("nullx"), api.OK}, {badName("bi"), api.OK},
		{api.Op{Name: "q", Data: "d"}, api.ErrForm}, {op("x", slices.Repeat([]api.Object{one}, api.MaxArgs+1)...), api.ErrForm}, {op("TJ"), api.OK}, {op("q", one), api.OK},
		{op("BI", dict), api.OK}, {op("BI", dict, dict), api.ErrForm}, {op("BI", dict, one), api.ErrForm}, {op("BI", one), api.ErrForm}, {op("BI", value.Null()), api.ErrForm}, {op("BI", stream), api.ErrForm}, {op("BI", sample.Ref(1, 0)), api.ErrForm},
		{image(" EI", ""), api.ErrForm}, {image("\x00EI\x0c", ""), api.ErrForm}, {image("a\nEI b", ""), api.ErrForm}, {image("a\rEI", ""), api.ErrForm}, {image("EI", ""), api.OK}, {image("EI ", ""), api.OK}, {image("EI a", ""), api.OK}, {image(" EIa", ""), api.OK}, {image(" E", ""), api.OK}, {image("a\x0bEI", ""), api.OK}, {image(" EI(", ""), api.OK}, {image(" ei ", ""), api.OK},
		{op("x", sample.Ref(1, 0)), api.ErrKind}, {op("x", sample.Array(one, sample.Dict("A", sample.Ref(1, 0)))), api.ErrKind}, {op("x", stream), api.ErrKind}, {op("x", one, stream), api.ErrKind}, {image("", "A", sample.Ref(1, 0)), api.ErrKind}, {image("", "A", sample.Array(sample.Ref(1, 0))), api.ErrKind}, {image("", "A", stream), api.ErrKind}, {op("x", sample.Array(stream)), api.ErrKind},
		{image("", "A", nest(one, api.MaxDepth-2)), api.OK}, {image("", "A", nest(one, api.MaxDepth-1)), api.ErrDeep}, {op("x", nest(one, api.MaxDepth)), api.ErrDeep}, {op("x", value.Int(api.MaxInt+1)), api.ErrRange}, {image("", "B A", one, one), api.ErrForm}, {image("", "A", value.Null()), api.ErrForm}, {op("x", value.Name("\x00")), api.ErrForm}, {op("x", value.String(strings.Repeat("s", api.MaxString+1))), api.ErrLong}, {op("x", sample.Wide(api.MaxKids+1)), api.ErrMany}, {op("x", api.Object{Kind: 10}), api.ErrKind},
		{op("x", api.Object{Kind: api.KStream, S: strings.Repeat("d", api.MaxData+1)}), api.ErrLong}, {op("x", sample.Ref(0, 0)), api.ErrRange},
		// The order of the errors of one operator.
		{api.Op{Name: "R", Args: []api.Object{value.Int(api.MaxInt + 1)}}, api.ErrForm}, {api.Op{Name: "x", Args: []api.Object{sample.Ref(1, 0)}, Data: "d"}, api.ErrForm}, {image(" EI", "A", value.Int(api.MaxInt+1)), api.ErrForm}, {op("x", append(slices.Repeat([]api.Object{one}, api.MaxArgs), value.Int(api.MaxInt+1))...), api.ErrForm},
		{op("x", sample.Ref(1, 0), value.Int(api.MaxInt+1)), api.ErrRange}, {op("x", stream, value.Name("\x00")), api.ErrForm}, {op("x", sample.Array(sample.Ref(1, 0)), value.Int(api.MaxInt+1)), api.ErrRange}, {op("x", value.Name("\x00"), value.Int(api.MaxInt+1)), api.ErrForm},
	} {
		for _, l := range [][]api.Op{{c.o}, {op("q"), c.o}, {c.o, op("R")}} {
			want := c.want
			if want == api.OK && len(l) == 2 && l[1].Name == "R" {
				want = api.ErrForm
			}
			if s, e := ops.Text(l); e != want || (s == "") != (e != api.OK) {
				t.Errorf("Text %d of %s = %s, %d, want %d", i, brief(l), brief(s), e, want)
			}
		}
	}
	many := slices.Repeat([]api.Op{op("q")}, api.MaxOps+1)
	if s, e := ops.Text(many); s != "" || e != api.ErrMany {
		t.Errorf("Text of too many operators = %s, %d", brief(s), e)
	}
	many[0] = op("R")
	if s, e := ops.Text(many); s != "" || e != api.ErrMany {
		t.Errorf("Text of too many operators, of which one is wrong = %s, %d", brief(s), e)
	}
	if s, e := ops.Text(many[:api.MaxOps]); s != "" || e != api.ErrForm {
		t.Errorf("Text of many operators, of which one is wrong = %s, %d", brief(s), e)
	}
}

// list is the table of the chapter, as it stands there.
const list = `none: b B b* B* BT ET EMC BX EX f F f* h n q Q s S T* W W*
n: g G i j J M w Tc TL Tr Ts Tw Tz
nn: d0 l m Td TD
nnn: rg RG
nnnn: k K re v y
nnnnnn: c cm d1 Tm
N: BMC cs CS Do gs MP ri sh
Nn: Tf
N*: BDC DP
s: Tj '
nns: "
a: TJ
an: d
d: BI`

// table returns the letters of the operators by their names.
func table() map[string]string {
	all := map[string]string{}
	for _, row := range strings.Split(list, "\n") {
		letters, names, _ := strings.Cut(row, ": ")
		for _, name := range strings.Fields(names) {
			all[name] = strings.TrimPrefix(letters, "none")
		}
	}
	return all
}

// Promise 43.3.
func TestTakes(t *testing.T) {
	all := table()
	if len(all) != 67 {
		t.Errorf("there are %d operators", len(all))
	}
	for name, letters := range all {
		if got := ops.Takes(name); got != letters {
			t.Errorf("Takes(%q) = %q, want %q", name, got, letters)
		}
	}
	others := []string{"", " ", "x", "?", "b B", "q ", " q", "bt", "Q*", "ID", "EI", "R", "true", "null", "none", "N*", "nn", "rG", "TJ\n", "''", "\x00"}
	for c := range 256 {
		others = append(others, string([]byte{byte(c)}), "T"+string([]byte{byte(c)}), string([]byte{byte(c)})+"*")
	}
	for _, name := range others {
		want, ok := all[name]
		if !ok {
			want = "?"
		}
		if got := ops.Takes(name); got != want {
			t.Errorf("Takes(%q) = %q, want %q", name, got, want)
		}
	}
}

// kinds returns an object of each kind, and two of none.
func kinds() []api.Object {
	var l []api.Object
	for kind := range 10 {
		l = append(l, api.Object{Kind: kind})
	}
	return append(l, api.Object{Kind: 10}, api.Object{Kind: -1})
}

// stands returns the kinds that a letter stands for.
func stands(letter rune) []int {
	switch letter {
	case 'n':
		return []int{api.KInt, api.KReal}
	case 's':
		return []int{api.KString}
	case 'N':
		return []int{api.KName}
	case 'a':
		return []int{api.KArray}
	case 'd':
		return []int{api.KDict}
	}
	return []int{-1, 0, 1, 2, 3, 4, 5, 6, 7, 8, 9, 10}
}

// Promise 43.3.
func TestCheck(t *testing.T) {
	for name, letters := range table() {
		var args []api.Object
		for _, letter := range letters {
			args = append(args, api.Object{Kind: stands(letter)[0]})
		}
		expect := func(o api.Op, want api.Errno) {
			t.Helper()
			if e := ops.Check(o); e != want {
				t.Errorf("Check(%v) = %d, want %d", o, e, want)
			}
		}
		withData := api.ErrForm
		if name == "BI" {
			withData = api.OK
		}
		expect(op(name, args...), api.OK)
		expect(api.Op{Name: name, Args: args, Data: "d"}, withData)
		expect(api.Op{Name: name, Args: append(args, value.Null()), Data: "d"}, api.ErrOp)
		expect(op(name, append(args, value.Int(1))...), api.ErrOp)
		if len(args) > 0 {
			expect(op(name, args[1:]...), api.ErrOp)
			expect(op(name), api.ErrOp)
		}
		for i, letter := range letters {
			for _, o := range kinds() {
				changed := slices.Clone(args)
				changed[i] = o
				want := api.ErrOp
				if slices.Contains(stands(letter), o.Kind) {
					want = api.OK
				}
				expect(op(name, changed...), want)
			}
		}
	}
	for _, o := range []api.Op{op("x"), op("?"), op(""), op("R"), op("ID"), op("?", value.Int(1)), {Name: "x", Data: "d"}, {Name: "BI", Data: "d"}} {
		if e := ops.Check(o); e != api.ErrOp {
			t.Errorf("Check(%v) = %d", o, e)
		}
	}
	// What is in an operand does not matter.
	for _, o := range []api.Op{op("g", value.Int(1<<60)), op("Tf", value.Name("\x00"), value.Real(-1<<60)), image(" EI ", "B A", value.Null(), sample.Ref(0, 0)), op("TJ", sample.Array(sample.Ref(1, 0))), op("DP", value.Name(""), sample.Ref(1, 0))} {
		if e := ops.Check(o); e != api.OK {
			t.Errorf("Check(%v) = %d", o, e)
		}
	}
}

// Promise 43.4.
func TestNums(t *testing.T) {
	one, half := value.Int(1), value.Real(5000)
	for i, c := range []struct {
		o    api.Op
		want []int64
		err  api.Errno
	}{
		{op("q"), nil, api.OK}, {op("", one, half, value.Int(-3)), []int64{10000, 5000, -30000}, api.OK}, {api.Op{Name: "BI", Args: []api.Object{half}, Data: "d"}, []int64{5000}, api.OK},
		{op("x", value.Int(107374), value.Real(api.MaxFix), value.Real(-api.MaxFix)), []int64{1073740000, 1073741824, -1073741824}, api.OK}, {op("x", slices.Repeat([]api.Object{one}, 100)...), slices.Repeat([]int64{10000}, 100), api.OK},
		{op("x", value.Int(107375)), nil, api.ErrRange}, {op("x", value.Real(api.MaxFix+1)), nil, api.ErrRange}, {op("x", value.Int(-1<<63)), nil, api.ErrRange},
		{op("x", value.Null()), nil, api.ErrKind}, {op("x", value.String("1")), nil, api.ErrKind}, {op("x", value.Bool(true)), nil, api.ErrKind}, {op("x", sample.Array(one)), nil, api.ErrKind}, {op("x", sample.Ref(1, 0)), nil, api.ErrKind}, {op("x", one, value.Name("A")), nil, api.ErrKind}, {op("x", api.Object{Kind: 12, N: 1}), nil, api.ErrKind},
		{op("x", value.Int(107375), value.Null()), nil, api.ErrRange}, {op("x", value.Null(), value.Int(107375)), nil, api.ErrKind},
	} {
		if l, e := ops.Nums(c.o); !slices.Equal(l, c.want) || e != c.err {
			t.Errorf("Nums %d = %v, %d, want %v, %d", i, l, e, c.want, c.err)
		}
	}
}
