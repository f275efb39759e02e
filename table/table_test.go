package table_test

import (
	"math"
	"slices"
	"strconv"
	"strings"
	"testing"

	"foliant/api"
	"foliant/parse"
	"foliant/sample"
	"foliant/table"
	"foliant/value"
)

// packed returns an entry.
func packed(num, a, b int) api.Slot { return api.Slot{Num: num, Kind: api.SlotPacked, A: a, B: b} }

// Promise 18.2.
func TestText(t *testing.T) {
	trailer := sample.Dict("Prev Root Size", value.Int(7), value.Ref(1, 0), value.Int(3))
	for _, c := range []struct {
		slots   []api.Slot
		trailer api.Object
		want    string
	}{
		{nil, sample.Dict(""), "xref\ntrailer\n<<>>\n"},
		{[]api.Slot{free(0, 0, 65535)}, sample.Dict(""), "xref\n0 1\n0000000000 65535 f \ntrailer\n<<>>\n"},
		{[]api.Slot{free(0, 4, 65535), plain(1, 17, 0), plain(2, 123456, 12)}, trailer, "xref\n0 3\n0000000004 65535 f \n0000000017 00000 n \n0000123456 00012 n \ntrailer\n<</Prev 7/Root 1 0 R/Size 3>>\n"},
		{[]api.Slot{free(0, 0, 65535), plain(1, 1, 0), free(3, 0, 1)}, sample.Dict(""), "xref\n0 2\n0000000000 65535 f \n0000000001 00000 n \n3 1\n0000000000 00001 f \ntrailer\n<<>>\n"},
		{[]api.Slot{plain(5, 0, 0), plain(7, api.MaxInt, api.MaxGen), free(8, api.MaxInt, 0), plain(8191, 1000000000, 9)}, sample.Dict("A", value.Int(-1)), "xref\n5 1\n0000000000 00000 n \n7 2\n2147483647 65535 n \n2147483647 00000 f \n8191 1\n1000000000 00009 n \ntrailer\n<</A -1>>\n"},
	} {
		for _, x := range []api.Section{{Slots: c.slots, Trailer: c.trailer}, {At: -7, Slots: c.slots, Trailer: c.trailer, Prev: -5, Hybrid: 99, Own: math.MaxInt}} {
			if got, e := table.Text(x); got != c.want || e != api.OK {
				t.Errorf("Text(%v) = %q, %d, want %q", x, got, e, c.want)
			}
		}
	}
}

// Promise 18.2: errors, and which of them comes first.
func TestTextRefuses(t *testing.T) {
	dict, bad, array := sample.Dict(""), api.Object{Kind: 99}, value.Array()
	long, deep := value.Name(strings.Repeat("n", api.MaxName+1)), sample.Nest(value.Int(1), api.MaxDepth)
	stream := api.Object{Kind: api.KStream}
	for i, c := range []struct {
		slots   []api.Slot
		trailer api.Object
		want    api.Errno
	}{
		{[]api.Slot{plain(-1, 0, 0)}, dict, api.ErrRange}, {[]api.Slot{plain(8192, 0, 0)}, dict, api.ErrRange}, {[]api.Slot{plain(1, 0, 0), plain(1, 0, 0)}, dict, api.ErrTwice}, {[]api.Slot{plain(2, 0, 0), plain(1, 0, 0)}, dict, api.ErrArg},
		{[]api.Slot{{Num: 1, Kind: 3}}, dict, api.ErrKind}, {[]api.Slot{packed(1, 1, 0), plain(8192, 0, 0)}, dict, api.ErrRange}, {[]api.Slot{packed(1, 0, 0)}, dict, api.ErrRange},
		{[]api.Slot{packed(1, 1, 0)}, dict, api.ErrKind}, {[]api.Slot{plain(1, 1, 0), packed(2, 1, 0)}, bad, api.ErrKind}, {[]api.Slot{plain(0, 1, 0), packed(2, 1, 0)}, long, api.ErrKind}, {[]api.Slot{packed(0, 1, 0)}, dict, api.ErrKind}, {[]api.Slot{free(0, 0, api.MaxGen), packed(8191, 1, 0)}, dict, api.ErrKind},
		{[]api.Slot{plain(0, 0, api.MaxGen)}, dict, api.ErrArg}, {[]api.Slot{free(0, 0, api.MaxGen-1)}, dict, api.ErrArg}, {[]api.Slot{free(0, 0, 0)}, dict, api.ErrArg}, {[]api.Slot{plain(0, 0, 0), plain(1, 0, 0)}, bad, api.ErrArg}, {[]api.Slot{free(0, 0, 0)}, array, api.ErrArg}, {[]api.Slot{free(0, 0, 1)}, long, api.ErrArg},
		{nil, bad, api.ErrKind}, {nil, long, api.ErrLong}, {nil, deep, api.ErrDeep}, {nil, value.Ref(0, 0), api.ErrRange}, {nil, sample.Dict("A", value.Null()), api.ErrForm}, {nil, sample.Wide(api.MaxKids + 1), api.ErrMany},
		{nil, array, api.ErrKind}, {nil, value.Null(), api.ErrKind}, {nil, stream, api.ErrKind}, {[]api.Slot{free(0, 0, api.MaxGen)}, value.Ref(1, 0), api.ErrKind},
	} {
		if got, e := table.Text(api.Section{Slots: c.slots, Trailer: c.trailer}); got != "" || e != c.want {
			t.Errorf("%d: Text(%v) = %q, %d, want %d", i, c.slots, got, e, c.want)
		}
	}
}

// Promise 18.3.
func TestCheck(t *testing.T) {
	ok, one := plain(5, 1, 1), plain(1, 0, 0)
	for _, c := range []struct {
		want  api.Errno
		slots []api.Slot
	}{
		{api.OK, nil}, {api.OK, []api.Slot{}}, {api.OK, []api.Slot{ok}}, {api.OK, []api.Slot{plain(0, 0, 0), free(1, 0, 0), packed(2, 1, 0), ok, plain(8191, 0, 0)}},
		{api.OK, []api.Slot{free(0, api.MaxInt, api.MaxGen)}}, {api.OK, []api.Slot{plain(8191, api.MaxInt, api.MaxGen)}}, {api.OK, []api.Slot{packed(0, api.MaxNum, api.MaxKids)}}, {api.OK, []api.Slot{packed(3, 3, 0)}},
		{api.ErrRange, []api.Slot{plain(-1, 0, 0)}}, {api.ErrRange, []api.Slot{plain(8192, 0, 0)}}, {api.ErrRange, []api.Slot{free(math.MinInt, 0, 0)}}, {api.ErrRange, []api.Slot{packed(math.MaxInt, 1, 0)}},
		{api.ErrRange, []api.Slot{{Num: -1, Kind: 3}}}, {api.ErrRange, []api.Slot{{Num: 8192, Kind: -1}}},
		{api.ErrKind, []api.Slot{{Kind: 3}}}, {api.ErrKind, []api.Slot{{Kind: -1}}}, {api.ErrKind, []api.Slot{{Kind: math.MaxInt}}}, {api.ErrKind, []api.Slot{{Num: 8191, Kind: 3, A: -1, B: -1}}}, {api.ErrKind, []api.Slot{{Num: 1, Kind: math.MinInt}}},
		{api.ErrRange, []api.Slot{free(1, -1, 0)}}, {api.ErrRange, []api.Slot{free(1, api.MaxInt+1, 0)}}, {api.ErrRange, []api.Slot{free(1, 0, -1)}}, {api.ErrRange, []api.Slot{free(1, 0, api.MaxGen+1)}},
		{api.ErrRange, []api.Slot{plain(1, -1, 0)}}, {api.ErrRange, []api.Slot{plain(1, api.MaxInt+1, 0)}}, {api.ErrRange, []api.Slot{plain(1, 0, -1)}}, {api.ErrRange, []api.Slot{plain(1, 0, api.MaxGen+1)}}, {api.ErrRange, []api.Slot{plain(1, math.MinInt, math.MaxInt)}},
		{api.ErrRange, []api.Slot{packed(1, 0, 0)}}, {api.ErrRange, []api.Slot{packed(1, api.MaxNum+1, 0)}}, {api.ErrRange, []api.Slot{packed(1, 1, -1)}}, {api.ErrRange, []api.Slot{packed(1, 1, api.MaxKids+1)}}, {api.ErrRange, []api.Slot{packed(1, -1, 0)}},
		{api.ErrTwice, []api.Slot{ok, ok}}, {api.ErrTwice, []api.Slot{ok, packed(5, 1, 0)}}, {api.ErrTwice, []api.Slot{one, ok, free(5, 0, 0), {Kind: 9}}}, {api.ErrTwice, []api.Slot{plain(0, 0, 0), plain(0, 1, 0)}},
		{api.ErrArg, []api.Slot{ok, one}}, {api.ErrArg, []api.Slot{one, ok, one}}, {api.ErrArg, []api.Slot{ok, plain(4, 0, 0), {Kind: 9}}}, {api.ErrArg, []api.Slot{one, plain(0, 0, 0)}},
		{api.ErrRange, []api.Slot{ok, plain(-5, 0, 0)}}, {api.ErrKind, []api.Slot{ok, {Num: 5, Kind: 3}}}, {api.ErrKind, []api.Slot{ok, {Num: 1, Kind: 3}}}, {api.ErrRange, []api.Slot{ok, plain(5, -1, 0)}}, {api.ErrRange, []api.Slot{ok, plain(1, -1, 0)}},
	} {
		if e := table.Check(c.slots); e != c.want {
			t.Errorf("Check(%v) = %d, want %d", c.slots, e, c.want)
		}
	}
}

// checkRuns holds runs against the words of the chapter: they have all entries, none goes on where it ends, and each number in one follows from that before it.
func checkRuns(t *testing.T, nums []int) {
	t.Helper()
	var slots []api.Slot
	for _, num := range nums {
		slots = append(slots, api.Slot{Num: num})
	}
	var want [][2]int
	for i, num := range nums {
		if i > 0 && num > math.MinInt && nums[i-1] == num-1 {
			want[len(want)-1][1]++
		} else {
			want = append(want, [2]int{num, 1})
		}
	}
	if got := table.Runs(slots); !slices.Equal(got, want) {
		t.Errorf("Runs(%v) = %v, want %v", nums, got, want)
	}
}

// Promises 18.3 and 18.5.
func TestRuns(t *testing.T) {
	if got := table.Runs([]api.Slot{free(0, 0, 0), plain(1, 5, 5), packed(3, 2, 1)}); !slices.Equal(got, [][2]int{{0, 2}, {3, 1}}) {
		t.Errorf("Runs of 0, 1, 3 = %v", got)
	}
	nums := []int{0, 1, 2, 3, -1, 8191, math.MaxInt, math.MinInt}
	for n := range 8 * 8 * 8 * 8 * 8 {
		var list []int
		for ; n > 0; n /= 8 {
			list = append(list, nums[n%8])
		}
		checkRuns(t, list)
	}
	all := make([]int, api.MaxNum+1)
	for i := range all {
		all[i] = i
	}
	checkRuns(t, all)
	for i := range all {
		all[i] = 2 * i
	}
	checkRuns(t, all)
}

// sections returns sections that Text takes.
func sections() []api.Section {
	var list []api.Section
	for n := range 200 {
		x := api.Section{Trailer: sample.Dict("Size", value.Int(int64(n))), Prev: -1, Hybrid: -1}
		if n%3 == 1 {
			x.Prev, x.Trailer = n, sample.Dict("Prev Size", value.Int(int64(n)), value.Int(3))
		}
		if n%5 == 1 {
			x.Trailer, _ = value.Set(x.Trailer, "XRefStm", value.Int(int64(n*n)))
			x.Hybrid = n * n
		}
		for num := range 40 {
			switch mixed := (n*n + num*num*num + n*num) % 7; {
			case num == 0 && mixed < 4:
				x.Slots = append(x.Slots, free(0, n, api.MaxGen))
			case num > 0 && mixed < 2:
				x.Slots = append(x.Slots, free(num, n, mixed))
			case num > 0 && mixed < 4:
				x.Slots = append(x.Slots, plain(num, n*num*1000, n))
			}
		}
		list = append(list, x)
	}
	for _, o := range sample.Objects() {
		if value.Depth(o) < api.MaxDepth && o.Kind != api.KNull {
			list = append(list, api.Section{Trailer: sample.Dict("A", o), Prev: -1, Hybrid: -1})
		}
	}
	return list
}

// Promise 18.4.
func TestRoundTrip(t *testing.T) {
	for _, x := range sections() {
		s, e := table.Text(x)
		if e != api.OK {
			t.Fatalf("Text(%s) = %d", brief(x), e)
		}
		checkRead(t, s, 0, x, len(s)-1, api.OK)
		x.At = 2
		checkRead(t, "\n\n"+s+"startxref", 2, x, len(s)+1, api.OK)
	}
}

// Promises 18.2 and 18.5: a table is its lines.
func TestTextLines(t *testing.T) {
	for _, x := range sections() {
		var want strings.Builder
		want.WriteString("xref\n")
		i := 0
		for _, run := range table.Runs(x.Slots) {
			want.WriteString(strconv.Itoa(run[0]) + " " + strconv.Itoa(run[1]) + "\n")
			for range run[1] {
				one := x.Slots[i]
				a, b := strconv.Itoa(10000000000 + one.A)[1:], strconv.Itoa(100000 + one.B)[1:]
				want.WriteString(a + " " + b + " " + []string{"f", "n"}[one.Kind] + " \n")
				i++
			}
		}
		s, _ := table.Text(x)
		if rest, ok := strings.CutPrefix(s, want.String()+"trailer\n"); !ok {
			t.Errorf("Text(%s) = %s", brief(x), brief(s))
		} else if o, e := parse.Whole(rest); e != api.OK || !value.Same(o, x.Trailer) || i != len(x.Slots) {
			t.Errorf("Text(%s) has the trailer %s", brief(x), brief(rest))
		}
	}
}

// Aliasing: neither Text nor Runs changes its argument.
func TestArguments(t *testing.T) {
	for i, x := range sections() {
		was := x
		was.Slots, was.Trailer = slices.Clone(x.Slots), value.Clone(x.Trailer)
		table.Text(x)
		table.Check(x.Slots)
		if runs := table.Runs(x.Slots); len(runs) > 0 {
			runs[0][0] = -5
		}
		if !same(x, was) {
			t.Errorf("section %d was changed", i)
		}
	}
}
