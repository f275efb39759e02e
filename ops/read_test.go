package ops_test

import (
	"fmt"
	"slices"
	"strconv"
	"strings"
	"testing"
	"time"

	"foliant/api"
	"foliant/ops"
	"foliant/sample"
	"foliant/value"
)

// brief shows the beginning of anything.
func brief(x any) string { return fmt.Sprintf("%.400s", fmt.Sprintf("%q", fmt.Sprint(x))) }

// op returns an operator without data.
func op(name string, args ...api.Object) api.Op { return api.Op{Name: name, Args: args} }

// image returns an inline image.
func image(data, keys string, kids ...api.Object) api.Op {
	return api.Op{Name: "BI", Args: []api.Object{sample.Dict(keys, kids...)}, Data: data}
}

func sameOp(a, b api.Op) bool {
	return a.Name == b.Name && a.Data == b.Data && slices.EqualFunc(a.Args, b.Args, value.Same)
}

func sameOps(a, b []api.Op) bool { return slices.EqualFunc(a, b, sameOp) }

// Promise 43.1: operators of all forms.
func TestRead(t *testing.T) {
	one, two, a := value.Int(1), value.Int(2), value.String("a")
	for i, c := range []struct {
		s    string
		want []api.Op
	}{
		{"", nil}, {" % nothing\r\n\x00", nil}, {"1 0 0 rg (a)Tj", []api.Op{op("rg", one, value.Int(0), value.Int(0)), op("Tj", a)}},
		{"q", []api.Op{op("q")}}, {"q Q", []api.Op{op("q"), op("Q")}}, {"q%Q\nQ", []api.Op{op("q"), op("Q")}}, {"/A/B BMC", []api.Op{op("BMC", value.Name("A"), value.Name("B"))}},
		{"(a)'(a)\"", []api.Op{op("'", a), op("\"", a)}}, {"[1(a)]TJ", []api.Op{op("TJ", sample.Array(one, a))}}, {"T*f*b*", []api.Op{op("T*f*b*")}}, {"T* f*", []api.Op{op("T*"), op("f*")}},
		{"true false null x", []api.Op{op("x", value.Bool(true), value.Bool(false), value.Null())}}, {"truex x", []api.Op{op("truex"), op("x")}}, {"1 2.5 -.5 +3 x", []api.Op{op("x", one, value.Real(25000), value.Real(-5000), value.Int(3))}}, {"1.2.3", []api.Op{op("1.2.3")}}, {"1x", []api.Op{op("1x")}}, {"- + .", []api.Op{op("-"), op("+"), op(".")}},
		{"1 0 Rx", []api.Op{op("Rx", one, value.Int(0))}}, {"1 0 RR", []api.Op{op("RR", one, value.Int(0))}}, {"<</A 1/B null>>x", []api.Op{op("x", sample.Dict("A", one))}}, {"<</A<</B[<61>]>>>>x", []api.Op{op("x", sample.Dict("A", sample.Dict("B", sample.Array(a))))}},
		{"1 BIx", []api.Op{op("BIx", one)}}, {"IDx EIx ID1", []api.Op{op("IDx"), op("EIx"), op("ID1")}}, {"bi id ei r", []api.Op{op("bi"), op("id"), op("ei"), op("r")}},
		{"obj endobj stream", []api.Op{op("obj"), op("endobj"), op("stream")}}, {strings.Repeat("w", 127), []api.Op{op(strings.Repeat("w", 127))}},
		{strings.Repeat("1 ", api.MaxArgs) + "x", []api.Op{op("x", slices.Repeat([]api.Object{one}, api.MaxArgs)...)}}, {strings.Repeat("[", api.MaxDepth) + strings.Repeat("]", api.MaxDepth) + "x", []api.Op{op("x", nest(sample.Array(), api.MaxDepth-1))}},
		{strings.Repeat("q ", api.MaxOps), slices.Repeat([]api.Op{op("q")}, api.MaxOps)}, {strings.Repeat("q ", api.MaxOps-1) + "BI ID\n\nEI", append(slices.Repeat([]api.Op{op("q")}, api.MaxOps-1), image("", ""))}, {strings.Repeat("q ", api.MaxOps) + "%", slices.Repeat([]api.Op{op("q")}, api.MaxOps)},
		{"q 1 2 x BI ID  EI Q", []api.Op{op("q"), op("x", one, two), image("", ""), op("Q")}},
	} {
		if l, f := ops.Read(c.s); !sameOps(l, c.want) || f != (api.Fault{}) {
			t.Errorf("Read %d = %s, %v, want %s", i, brief(l), f, brief(c.want))
		}
	}
}

// nest returns an object inside so many arrays.
func nest(o api.Object, levels int) api.Object {
	for range levels {
		o = sample.Array(o)
	}
	return o
}

// Promise 43.1: inline images of all forms.
func TestReadImages(t *testing.T) {
	one := value.Int(1)
	deep := api.MaxDepth - 1
	broad := sample.Broad(api.MaxKids)
	pairs := ""
	for i, key := range broad.Keys {
		pairs += "/" + key + " " + strconv.Itoa(i) + " "
	}
	for i, c := range []struct {
		s    string
		want []api.Op
	}{
		{"BI ID  EI", []api.Op{image("", "")}}, {"BI ID\n\nEI\n", []api.Op{image("", "")}}, {"BI ID a EI", []api.Op{image("a", "")}}, {"BI%x\nID a\x00EI\x00", []api.Op{image("a", "")}}, {"BI/W 1/H 1 ID a EI", []api.Op{image("a", "H W", one, one)}}, {"BI/W 1ID a EI", nil}, {"BI/W(ID)ID a EI", []api.Op{image("a", "W", value.String("ID"))}},
		{"BI/W null/H 1 ID a EI", []api.Op{image("a", "H", one)}}, {"BI/W null ID a EI", []api.Op{image("a", "")}}, {"BI/A[/B<</C 1/D null>>]ID a EI", []api.Op{image("a", "A", sample.Array(value.Name("B"), sample.Dict("C", one)))}}, {"BI/ true ID a EI", []api.Op{{Name: "BI", Args: []api.Object{{Kind: api.KDict, Keys: []string{""}, Kids: []api.Object{value.Bool(true)}}}, Data: "a"}}},
		// The end is white space, EI and white space, or the end.
		{"BI ID EI EI", []api.Op{image("EI", "")}}, {"BI ID EI EI EI", nil}, {"BI ID  EI EI", nil}, {"BI ID a EIb EI c", []api.Op{image("a EIb", ""), op("c")}}, {"BI ID aEI EI", []api.Op{image("aEI", "")}}, {"BI ID a EI(b EI", []api.Op{image("a EI(b", "")}}, {"BI ID a  EI", []api.Op{image("a ", "")}}, {"BI ID \r\n EI", []api.Op{image("\r\n", "")}}, {"BI ID a EI%", nil}, {"BI ID a E I EI\tq", []api.Op{image("a E I", ""), op("q")}}, {"BI ID ) > #00 (\xff EI q", []api.Op{image(") > #00 (\xff", ""), op("q")}}, {"BI ID a ei EI", []api.Op{image("a ei", "")}},
		{"BI ID\r\nEI", []api.Op{image("", "")}}, {"BI ID\ra\nEI\r", []api.Op{image("a", "")}}, {"BI ID\x0ca\x0cEI\x0c", []api.Op{image("a", "")}}, {"BI ID\ta\tEI", []api.Op{image("a", "")}},
		{"BI ID a EI BI ID b EI q", []api.Op{image("a", ""), image("b", ""), op("q")}}, {"BI ID a EI\n/EI BMC", []api.Op{image("a", ""), op("BMC", value.Name("EI"))}},
		{"BI/A " + strings.Repeat("[", deep) + strings.Repeat("]", deep) + "ID a EI", []api.Op{image("a", "A", nest(sample.Array(), deep-1))}}, {"BI " + pairs + "ID a EI", []api.Op{{Name: "BI", Args: []api.Object{broad}, Data: "a"}}},
	} {
		l, f := ops.Read(c.s)
		if c.want == nil {
			if l != nil || f.Err == api.OK {
				t.Errorf("Read %d = %s, %v", i, brief(l), f)
			}
			continue
		}
		if !sameOps(l, c.want) || f != (api.Fault{}) {
			t.Errorf("Read %d = %s, %v, want %s", i, brief(l), f, brief(c.want))
		}
	}
}

type faultCase struct {
	s   string
	at  int
	err api.Errno
}

func checkFaults(t *testing.T, list []faultCase) {
	t.Helper()
	for i, c := range list {
		if l, f := ops.Read(c.s); l != nil || f != (api.Fault{At: c.at, Err: c.err}) {
			t.Errorf("Read %d of %s = %s, %v, want %d, %d", i, brief(c.s), brief(l), f, c.at, c.err)
		}
	}
}

// Promise 43.1: faults outside inline images.
func TestReadFaults(t *testing.T) {
	qs := strings.Repeat("q ", api.MaxOps)
	args := strings.Repeat("1 ", api.MaxArgs)
	long := strings.Repeat("w", 128)
	checkFaults(t, []faultCase{
		{"1 2", 3, api.ErrEnd}, {"1 2 % x\n ", 9, api.ErrEnd}, {"q 1", 3, api.ErrEnd}, {"null", 4, api.ErrEnd}, {"(a)", 3, api.ErrEnd},
		// Errors of tokens and operands, at their beginning.
		{"q  (a", 3, api.ErrEnd}, {"q 1 %\n >", 7, api.ErrForm}, {"q)", 1, api.ErrForm}, {" <6x>q", 1, api.ErrForm}, {"1 <61", 2, api.ErrEnd}, {"/A#", 0, api.ErrForm}, {"q /#00", 2, api.ErrForm}, {"q " + long, 2, api.ErrLong}, {"q /" + long, 2, api.ErrLong}, {"q 2147483648 x", 2, api.ErrRange}, {"1 107375.0 x", 2, api.ErrRange},
		{"q [1 2", 2, api.ErrEnd}, {"q [1 (2", 2, api.ErrEnd}, {"q [1 2 x]", 2, api.ErrForm}, {"1 <</A 1/A 2>>", 2, api.ErrTwice}, {"1 <</A>>", 2, api.ErrForm}, {"1 <<1 2>>", 2, api.ErrForm}, {"1 ]", 2, api.ErrForm}, {">>", 0, api.ErrForm}, {"q { 1 }", 2, api.ErrForm}, {"}", 0, api.ErrForm}, {"q " + strings.Repeat("[", 25), 2, api.ErrDeep}, {"q [/" + long + "]", 2, api.ErrLong}, {"q [4294967296]", 2, api.ErrRange},
		{"[" + strings.Repeat("1 ", api.MaxKids+1) + "]x", 0, api.ErrMany},
		// References.
		{"1 0 R", 0, api.ErrForm}, {"q 7 [1 0 R] x", 4, api.ErrForm}, {"7 <</A[<</B 8191 65535 R>>]>>x", 2, api.ErrForm}, {"1 2 1 0 R x", 4, api.ErrForm}, {args + "1 0 R", 64, api.ErrForm}, {args + "[1", 64, api.ErrEnd},
		{"R", 0, api.ErrForm}, {"q R", 2, api.ErrForm}, {"0 0 R", 4, api.ErrForm}, {"8192 0 R", 7, api.ErrForm}, {"1 65536 R", 8, api.ErrForm}, {"(a)R", 3, api.ErrForm},
		// Words.
		{"ID", 0, api.ErrForm}, {"q EI", 2, api.ErrForm}, {"1 ID", 2, api.ErrForm}, {"1 EI q", 2, api.ErrForm}, {"1 BI ID a EI", 2, api.ErrForm}, {"q null BI", 7, api.ErrForm}, {"BI ID a EI EI", 11, api.ErrForm},
		// Too many of them.
		{args + " 2 x", 65, api.ErrMany}, {args + "null", 64, api.ErrMany}, {args + "[]", 64, api.ErrMany}, {"q " + args + " %\n /A", 70, api.ErrMany},
		{qs + "q", 16382, api.ErrMany}, {qs + " 1 2 q", 16387, api.ErrMany}, {qs + "BI", 16382, api.ErrMany}, {qs + "1 BI", 16384, api.ErrMany}, {qs + "R", 16382, api.ErrMany}, {qs + "EI", 16382, api.ErrMany}, {qs + "1 ID", 16384, api.ErrMany}, {qs + "1", 16383, api.ErrEnd}, {qs + "]", 16382, api.ErrForm}, {qs + "1 0 R", 16382, api.ErrForm}, {qs + args + "1 q", 16446, api.ErrMany}, {strings.Repeat("BI ID  EI ", api.MaxOps) + "q", 81910, api.ErrMany},
		{"q (a) 1 ]", 8, api.ErrForm}, {"] R", 0, api.ErrForm}, {"R ]", 0, api.ErrForm},
	})
}

// Promise 43.1: faults inside inline images.
func TestReadImageFaults(t *testing.T) {
	pairs := ""
	for _, key := range sample.Broad(api.MaxKids).Keys {
		pairs += "/" + key + " 1 "
	}
	nulls := strings.ReplaceAll(pairs, " 1 ", " null ")
	deep := strings.Repeat("[", api.MaxDepth) + strings.Repeat("]", api.MaxDepth)
	checkFaults(t, []faultCase{
		{"BI", 2, api.ErrEnd}, {"BI %x\n ", 7, api.ErrEnd}, {"BI/W 1", 6, api.ErrEnd}, {"BI/W 1 % ID", 11, api.ErrEnd}, {"BI/W", 4, api.ErrEnd}, {"BI/W  ", 6, api.ErrEnd},
		{"BI 1 ID a EI", 3, api.ErrForm}, {"BI (W) 1 ID a EI", 3, api.ErrForm}, {"BI q", 3, api.ErrForm}, {"BI EI", 3, api.ErrForm}, {"BI BI", 3, api.ErrForm}, {"BI null 1", 3, api.ErrForm}, {"BI << /W 1 >> ID a EI", 3, api.ErrForm}, {"BI/W 1 ]", 7, api.ErrForm}, {"BI/W 1 2 ID a EI", 7, api.ErrForm}, {"BI/W 1ID a EI", 5, api.ErrForm}, {"BI IDa EI", 3, api.ErrForm},
		{"BI )", 3, api.ErrForm}, {"BI/W 1 (", 7, api.ErrEnd}, {"BI /W#0", 3, api.ErrForm}, {"BI %\n/" + strings.Repeat("w", 128), 5, api.ErrLong},
		// Values.
		{"BI/W ID a EI", 5, api.ErrForm}, {"BI/W  q ID a EI", 6, api.ErrForm}, {"BI/W ]", 5, api.ErrForm}, {"BI/W (", 5, api.ErrEnd}, {"BI/W %\n [1 ", 8, api.ErrEnd}, {"BI/W 9999999999", 5, api.ErrRange}, {"BI/W <</A 1/A 1>>", 5, api.ErrTwice}, {"BI/W " + strings.Repeat("[", 25), 5, api.ErrDeep},
		{"BI/W 1 0 R ID a EI", 5, api.ErrForm}, {"BI/W [ <</A 1 0 R>>] ID a EI", 5, api.ErrForm}, {"BI/W 1 0 R/W 1", 5, api.ErrForm}, {"BI/W 0 0 R ID a EI", 7, api.ErrForm},
		{"BI/W " + deep + "ID a EI", 5, api.ErrDeep}, {"BI/V 1/W  " + deep + "/V 1", 10, api.ErrDeep}, {"BI/W " + strings.Repeat("[", 23) + "1 0 R" + strings.Repeat("]", 23), 5, api.ErrForm},
		// Keys.
		{"BI/W 1/W 1 ID a EI", 6, api.ErrTwice}, {"BI/W null /W null ID a EI", 10, api.ErrTwice}, {"BI/W 1/#57 ]", 6, api.ErrTwice}, {"BI/W 1/H 1/W", 10, api.ErrTwice},
		{"BI " + pairs + "/X 1 ID a EI", 3 + len(pairs), api.ErrMany}, {"BI " + pairs + "/X ]", 3 + len(pairs), api.ErrMany}, {"BI " + pairs + "/K00000 1", 3 + len(pairs), api.ErrTwice}, {"BI " + nulls + "/X 1 ID a EI", 3 + len(nulls), api.ErrMany}, {"BI " + pairs + "1", 3 + len(pairs), api.ErrForm},
		// What follows ID.
		{"BI ID", 5, api.ErrForm}, {"BI ID/a EI", 5, api.ErrForm}, {"BI ID(a EI", 5, api.ErrForm}, {"BI ID%\na EI", 5, api.ErrForm}, {"BI  /W 1 ID<", 11, api.ErrForm},
		{"BI ID ", 6, api.ErrEnd}, {"BI ID EI", 8, api.ErrEnd}, {"BI ID EI ", 9, api.ErrEnd}, {"BI ID\nEI\n", 9, api.ErrEnd}, {"BI ID a EIb", 11, api.ErrEnd}, {"BI ID aEI", 9, api.ErrEnd}, {"BI ID a E", 9, api.ErrEnd}, {"BI ID a EI(", 11, api.ErrEnd}, {"BI ID a EI%\n", 12, api.ErrEnd}, {"BI ID a EI/", 11, api.ErrEnd}, {"BI ID a EI BI ID b", 18, api.ErrEnd}, {"q BI ID a\x0bEI ", 13, api.ErrEnd},
		{"BI ID  EI EI", 10, api.ErrForm}, {"BI ID  EI 1", 11, api.ErrEnd}, {"BI ID  EI\n)", 10, api.ErrForm}, {"BI ID ] EI ]", 11, api.ErrForm},
	})
}

// Promise 43.1: long content is read at once.
func TestReadIsFast(t *testing.T) {
	start := time.Now()
	for _, s := range []string{
		strings.Repeat("1 2 3 4 5 6 7 8 9 0 1 2 3 4 5 6 7 8 9 0 1 2 3 4 5 6 7 8 9 0 x\n", 8000),
		strings.Repeat("BI/W 1/H 1 ID "+strings.Repeat(" E", 50)+" EI ", 8000),
		strings.Repeat("1 (", 1) + strings.Repeat("a", api.MaxString) + ")Tj",
		strings.Repeat("%\n", api.MaxData/2) + "q",
		"BI ID " + strings.Repeat(" EI.", api.MaxData/4) + " EI",
		strings.Repeat("["+strings.Repeat("1 1 ", 4000)+"]TJ ", 100),
		strings.Repeat("1 1 ("+strings.Repeat("a", 1000)+")\" ", 1000),
		strings.Repeat("[", api.MaxData), "BI" + strings.Repeat("/A", api.MaxData/2),
	} {
		ops.Read(s)
	}
	if took := time.Since(start); took > 10*time.Second {
		t.Errorf("it took %v", took)
	}
}
