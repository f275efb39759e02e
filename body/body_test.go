package body_test

import (
	"fmt"
	"strings"
	"testing"

	"foliant/api"
	"foliant/body"
	"foliant/sample"
	"foliant/value"
)

// brief shows the beginning of anything.
func brief(x any) string { return fmt.Sprintf("%.200s", fmt.Sprintf("%q", fmt.Sprint(x))) }

// same reports whether two items are equal.
func same(a, b api.Item) bool {
	return a.Num == b.Num && a.Gen == b.Gen && value.Same(a.Obj, b.Obj)
}

// Promise 8.1.
func TestCheck(t *testing.T) {
	one := value.Int(1)
	for i, c := range []struct {
		item api.Item
		want api.Errno
	}{
		{api.Item{Num: 1, Obj: one}, api.OK},
		{api.Item{Num: api.MaxNum, Gen: api.MaxGen, Obj: value.Null()}, api.OK},
		{api.Item{Num: 1, Obj: api.Object{Kind: api.KStream, Keys: []string{"Type"}, Kids: []api.Object{value.Name("ObjStm")}}}, api.OK},
		{api.Item{Num: 1, Obj: value.Array(value.Ref(1, 0))}, api.OK},
		{api.Item{Num: 0, Obj: one}, api.ErrRange}, {api.Item{Num: -1, Obj: one}, api.ErrRange}, {api.Item{Num: api.MaxNum + 1, Obj: one}, api.ErrRange},
		{api.Item{Num: 1, Gen: -1, Obj: one}, api.ErrRange}, {api.Item{Num: 1, Gen: api.MaxGen + 1, Obj: one}, api.ErrRange},
		{api.Item{Num: 0, Obj: api.Object{Kind: 99}}, api.ErrRange},
		{api.Item{Num: 1, Obj: api.Object{Kind: 99}}, api.ErrKind},
		{api.Item{Num: 1, Obj: value.Ref(1, 0)}, api.ErrKind},
		{api.Item{Num: 1, Obj: value.Ref(0, 0)}, api.ErrRange},
		{api.Item{Num: 1, Obj: value.Array(value.Name("\x00"))}, api.ErrForm},
		{api.Item{Num: 1, Obj: api.Object{Kind: api.KStream, S: strings.Repeat("d", api.MaxData+1)}}, api.ErrLong},
		{api.Item{Num: 1, Obj: sample.Nest(one, api.MaxDepth)}, api.ErrDeep},
	} {
		if e := body.Check(c.item); e != c.want {
			t.Errorf("Check %d = %d, want %d", i, e, c.want)
		}
		if text, e := body.Text(c.item); e != c.want || (text == "") == (e == api.OK) {
			t.Errorf("Text %d = %s, %d, want %d", i, brief(text), e, c.want)
		}
	}
}

// headCases are texts with an error in the header of an object, or without one.
func headCases() map[string]api.Errno {
	return map[string]api.Errno{
		"": api.ErrEnd, " %": api.ErrEnd, "1": api.ErrEnd, "1 0": api.ErrEnd, "1 0 %obj": api.ErrEnd,
		"(": api.ErrEnd, ")": api.ErrForm, "1 )": api.ErrForm, "1 0 )": api.ErrForm, "1 0 (": api.ErrEnd, "1 (": api.ErrEnd,
		"x": api.ErrForm, "1. 0 obj": api.ErrForm, "/1 0 obj": api.ErrForm, "obj": api.ErrForm, "[": api.ErrForm,
		"1 x": api.ErrForm, "1 0. obj": api.ErrForm, "1 obj": api.ErrForm, "1 (0) obj": api.ErrForm,
		"1 0 0": api.ErrForm, "1 0 R": api.ErrForm, "1 0 /obj": api.ErrForm, "1 0 (obj)": api.ErrForm, "1 0 objx": api.ErrForm, "1 0 Obj": api.ErrForm, "1 0 [": api.ErrForm,
		"0": api.ErrRange, "0 x": api.ErrRange, "0 )": api.ErrRange, "-1 0 obj": api.ErrRange, "8192 0 obj": api.ErrRange, "2147483648 0 obj": api.ErrRange,
		"1 -1": api.ErrRange, "1 65536": api.ErrRange, "1 65536 x": api.ErrRange, "1 2147483648 obj": api.ErrRange,
		"1 0 " + strings.Repeat("x", 128): api.ErrLong, strings.Repeat("x", 128): api.ErrLong,
	}
}

// Promise 8.2.
func TestHead(t *testing.T) {
	for _, c := range []struct {
		s              string
		at             int
		num, gen, next int
		err            api.Errno
	}{
		{"1 0 obj", 0, 1, 0, 7, api.OK},
		{"x 8191 65535 obj[", 1, 8191, 65535, 16, api.OK},
		{" %x\n+12%\r-0\x00obj(", 0, 12, 0, 15, api.OK},
		{"12 0 obj", 1, 2, 0, 8, api.OK},
		{"1 0 obj", -1, 0, 0, 0, api.ErrArg},
		{"1 0 obj", 8, 0, 0, 0, api.ErrArg},
		{"1 0 obj", 7, 0, 0, 0, api.ErrEnd},
	} {
		num, gen, next, e := body.Head(c.s, c.at)
		if num != c.num || gen != c.gen || next != c.next || e != c.err {
			t.Errorf("Head(%q, %d) = %d, %d, %d, %d", c.s, c.at, num, gen, next, e)
		}
	}
	for s, want := range headCases() {
		for _, before := range []string{"", "1 0 obj ", "5 "} {
			num, gen, next, e := body.Head(before+s, len(before))
			if num != 0 || gen != 0 || next != 0 || e != want {
				t.Errorf("Head(%q) = %d, %d, %d, %d, want %d", s, num, gen, next, e, want)
			}
		}
	}
}

// checkRead holds what Read answers against what it should answer.
func checkRead(t *testing.T, s string, at, length int, want api.Item, wantTo int, wantErr api.Errno) {
	t.Helper()
	got, to, e := body.Read(s, at, length)
	if !same(got, want) || to != wantTo || e != wantErr {
		t.Errorf("Read(%s, %d, %d) = %s, %d, %d, want %s, %d, %d", brief(s), at, length, brief(got), to, e, brief(want), wantTo, wantErr)
	}
}

// Promise 8.3.
func TestRead(t *testing.T) {
	none := api.Item{}
	checkRead(t, "1 0 obj 5 endobj", 0, -1, api.Item{Num: 1, Obj: value.Int(5)}, 16, api.OK)
	checkRead(t, "1 0 obj 5 endobj", 0, 9, api.Item{Num: 1, Obj: value.Int(5)}, 16, api.OK)
	checkRead(t, "x 7 65535 obj<</A 1/Length 3/B null>>endobj)", 1, -1, api.Item{Num: 7, Gen: 65535, Obj: sample.Dict("A Length", value.Int(1), value.Int(3))}, 43, api.OK)
	checkRead(t, "1 0 obj[2 0 R]%endobj\nendobj", 0, -1, api.Item{Num: 1, Obj: value.Array(value.Ref(2, 0))}, 28, api.OK)
	checkRead(t, "1 0 obj null endobj", 0, -1, api.Item{Num: 1}, 19, api.OK)
	for s, want := range headCases() {
		for _, length := range []int{-1, 0, 5} {
			checkRead(t, "5 "+s, 2, length, none, 0, want)
		}
	}
	for _, at := range []int{-1, 17, -1 << 62, 1 << 62} {
		checkRead(t, "1 0 obj 5 endobj", at, -1, none, 0, api.ErrArg)
	}
	for _, length := range []int{-2, -1 << 62} {
		checkRead(t, "1 0 obj 5 endobj", 0, length, none, 0, api.ErrArg)
		checkRead(t, "0 0 obj", 0, length, none, 0, api.ErrArg)
	}
	for s, want := range map[string]api.Errno{
		"": api.ErrEnd, " endobj": api.ErrForm, " x": api.ErrForm, ")": api.ErrForm, "[1": api.ErrEnd, "<</A 1/A 1>>": api.ErrTwice,
		" 2 0 R endobj": api.ErrKind, " 2 0 R": api.ErrKind, " 2 0 R )": api.ErrKind, " 2 0 R stream\n": api.ErrKind,
		" 5": api.ErrEnd, " 5 %endobj": api.ErrEnd, " 5 )": api.ErrForm, " 5 (": api.ErrEnd, " 5 x": api.ErrForm, " 5 /endobj": api.ErrForm, " 5 (endobj)": api.ErrForm, " 5 6 endobj": api.ErrForm,
		" 5 stream\nendstream endobj": api.ErrForm, "[]stream\nendstream endobj": api.ErrForm, "<<>>endstream": api.ErrForm, "<<>>obj": api.ErrForm, "<<>>/stream\n": api.ErrForm,
		"<<>>endobjx": api.ErrForm, "<<>>)": api.ErrForm, "<<>>": api.ErrEnd, "<<>>" + strings.Repeat("x", 128): api.ErrLong, strings.Repeat("[", 25): api.ErrDeep,
	} {
		for _, length := range []int{-1, 0, 5} {
			checkRead(t, "1 0 obj"+s, 0, length, none, 0, want)
		}
	}
}

// streamCases are what follows the header in a stream, the length that is handed in, and what Read tells of it.
func streamCases() []struct {
	s      string
	length int
	want   api.Errno
} {
	return []struct {
		s      string
		length int
		want   api.Errno
	}{
		{"<<>>stream", -1, api.ErrEnd}, {"<<>>stream\r", -1, api.ErrEnd}, {"<</Length 0>>stream\r", 0, api.ErrEnd},
		{"<<>>stream ", -1, api.ErrForm}, {"<<>>stream \n", 0, api.ErrForm}, {"<<>>stream\rx", 0, api.ErrForm}, {"<<>>stream\r\r\n", 0, api.ErrForm}, {"<<>>stream%\n", 0, api.ErrForm}, {"<<>>stream/A", 0, api.ErrForm},
		{"<<>>stream\n", -1, api.ErrForm}, {"<</Length null>>stream\n", -1, api.ErrForm}, {"<</length 0>>stream\nendstream endobj", -1, api.ErrForm},
		{"<</Length 2 0 R>>stream\n", -1, api.ErrKind}, {"<</Length 1.0>>stream\n", -1, api.ErrKind}, {"<</Length(1)>>stream\nxendstream endobj", -1, api.ErrKind},
		{"<</Length -1>>stream\n", -1, api.ErrRange}, {"<</Length -2147483647>>stream\n", -1, api.ErrRange},
		{"<</Length 1048577>>stream\n", -1, api.ErrLong}, {"<</Length 2147483647>>stream\n", -1, api.ErrLong}, {"<<>>stream\n", api.MaxData + 1, api.ErrLong}, {"<<>>stream\n", 1 << 62, api.ErrLong},
		{"<<>>stream\n", api.MaxData, api.ErrEnd}, {"<</Length 1>>stream\n", -1, api.ErrEnd}, {"<</Length 0>>stream\nx", 2, api.ErrEnd}, {"<</Length 4>>stream\r\nabc", -1, api.ErrEnd},
		{"<<>>stream\nabc", 3, api.ErrEnd}, {"<<>>stream\n", 0, api.ErrEnd}, {"<<>>stream\nabc %", 3, api.ErrEnd}, {"<<>>stream\nabc)", 3, api.ErrForm}, {"<<>>stream\nabc(", 3, api.ErrEnd},
		{"<<>>stream\nabc endobj", 3, api.ErrForm}, {"<<>>stream\nabc /endstream", 3, api.ErrForm}, {"<<>>stream\nabc (endstream)", 3, api.ErrForm}, {"<<>>stream\nabcendstream", 2, api.ErrForm},
		{"<<>>stream\nabcendstream endobj", 4, api.ErrForm}, {"<<>>stream\nabc endstreamendobj", 3, api.ErrForm}, {"<<>>stream\nabc 99999999999", 3, api.ErrRange},
		{"<<>>stream\nabc endstream", 3, api.ErrEnd}, {"<<>>stream\nabc endstream )", 3, api.ErrForm}, {"<<>>stream\nabc endstream x", 3, api.ErrForm}, {"<<>>stream\nabc endstream(", 3, api.ErrEnd},
		{"<<>>stream\nabc endstream /endobj", 3, api.ErrForm}, {"<<>>stream\nabc endstream (endobj)", 3, api.ErrForm}, {"<<>>stream\nabc endstream endstream", 3, api.ErrForm}, {"<<>>stream\nabc endstream 99999999999", 3, api.ErrRange},
	}
}

// Promise 8.4.
func TestReadStreamErrors(t *testing.T) {
	for _, c := range streamCases() {
		checkRead(t, "1 0 obj"+c.s, 0, c.length, api.Item{}, 0, c.want)
		checkRead(t, "]1 0 obj"+c.s, 1, c.length, api.Item{}, 0, c.want)
	}
}

// Promise 8.4.
func TestReadStream(t *testing.T) {
	long := strings.Repeat("d", api.MaxData)
	for _, c := range []struct {
		s      string
		length int
		keys   string
		data   string
	}{
		{"<</Length 3>>stream\nabcendstream endobj", -1, "", "abc"},
		{"<</Length 3>>stream\r\nabc\r\nendstream%\nendobj", -1, "", "abc"},
		{"<</Length 3>>stream\n\nab endstream endobj", -1, "", "\nab"},
		{"<</Length 3>>stream\r\n\r\nb\x00endstream endobj", -1, "", "\r\nb"},
		{"<</Length 0>>stream\nendstream endobj", -1, "", ""},
		{"<</Length 17>>stream\nendstream endobj \nendstream endobj", -1, "", "endstream endobj "},
		{"<</Length 99>>stream\nabc endstream endobj", 3, "", "abc"},
		{"<</Length -1>>stream\nabc endstream endobj", 3, "", "abc"},
		{"<</Length/x>>stream\nabc endstream endobj", 3, "", "abc"},
		{"<<>>stream\nabc endstream endobj", 3, "", "abc"},
		{"<</Length 99>>stream\n endstream endobj", 0, "", ""},
		{"<</Z 7/Length 3/A 7>> %x\nstream\nabc%x\nendstream endobj", -1, "A Z", "abc"},
		{"<</Length 1048576>>stream\n" + long + "\nendstream endobj", -1, "", long},
		{"<<>>stream\n" + long + "\nendstream endobj", api.MaxData, "", long},
	} {
		o := api.Object{Kind: api.KStream, S: c.data}
		for _, key := range strings.Fields(c.keys) {
			o.Keys, o.Kids = append(o.Keys, key), append(o.Kids, value.Int(7))
		}
		s := "3 2 obj" + c.s
		checkRead(t, s, 0, c.length, api.Item{Num: 3, Gen: 2, Obj: o}, len(s), api.OK)
		checkRead(t, "("+s+"x", 1, c.length, api.Item{}, 0, api.ErrForm)
		checkRead(t, "("+s+"(", 1, c.length, api.Item{Num: 3, Gen: 2, Obj: o}, len(s)+1, api.OK)
	}
}

// Promise 8.5.
func TestLength(t *testing.T) {
	null := value.Null()
	for _, c := range []struct {
		s    string
		want api.Object
		err  api.Errno
	}{
		{"<</Length 5>>stream", value.Int(5), api.OK},
		{"<</Length -5/A 1>> %\nstream x", value.Int(-5), api.OK},
		{"<</Length 7 0 R>>stream\n", value.Ref(7, 0), api.OK},
		{"<</Length[1]>>stream(", value.Array(value.Int(1)), api.OK},
		{"<</Length null>>stream\n", null, api.OK},
		{"<<>>stream\n", null, api.OK},
		{"<</Length 5>>endobj", null, api.OK},
		{"<</Length 5>>", null, api.OK},
		{"<</Length 5>>)", null, api.OK},
		{"<</Length 5>>(", null, api.OK},
		{"<</Length 5>>streamx", null, api.OK},
		{"<</Length 5>>/stream", null, api.OK},
		{"<</Length 5>>(stream)", null, api.OK},
		{"<</Length 5>>" + strings.Repeat("x", 128), null, api.OK},
		{"[/Length 5]stream", null, api.OK},
		{" 5 stream", null, api.OK},
		{" 2 0 R stream", null, api.OK},
		{" 5", null, api.OK},
		{"", null, api.ErrEnd},
		{" stream", null, api.ErrForm},
		{"<</Length 5", null, api.ErrEnd},
		{"<</Length 5/Length 5>>stream", null, api.ErrTwice},
		{"<</Length 99999999999>>stream", null, api.ErrRange},
	} {
		got, e := body.Length("]1 0 obj"+c.s, 1)
		if !value.Same(got, c.want) || e != c.err {
			t.Errorf("Length(%s) = %s, %d, want %s, %d", brief(c.s), brief(got), e, brief(c.want), c.err)
		}
	}
	for s, want := range headCases() {
		if got, e := body.Length(s, 0); !value.Same(got, null) || e != want {
			t.Errorf("Length(%q) = %s, %d, want %d", s, brief(got), e, want)
		}
	}
	for _, at := range []int{-1, 3} {
		if _, e := body.Length("1 ", at); e != api.ErrArg {
			t.Errorf("Length at %d = %d", at, e)
		}
	}
}

// Promise 8.6.
func TestText(t *testing.T) {
	stream := func(keys string, data string, kids ...api.Object) api.Object {
		return api.Object{Kind: api.KStream, Keys: strings.Fields(keys), Kids: kids, S: data}
	}
	full := sample.Broad(api.MaxKids)
	full.Kind = api.KStream
	for i, c := range []struct {
		item api.Item
		want string
		err  api.Errno
	}{
		{api.Item{Num: 3, Obj: value.Int(7)}, "3 0 obj\n7\nendobj\n", api.OK},
		{api.Item{Num: 8191, Gen: 65535}, "8191 65535 obj\nnull\nendobj\n", api.OK},
		{api.Item{Num: 1, Obj: sample.Dict("Length", value.Int(7))}, "1 0 obj\n<</Length 7>>\nendobj\n", api.OK},
		{api.Item{Num: 4, Gen: 1, Obj: stream("", "ab")}, "4 1 obj\n<</Length 2>>\nstream\nab\nendstream\nendobj\n", api.OK},
		{api.Item{Num: 4, Obj: stream("", "")}, "4 0 obj\n<</Length 0>>\nstream\n\nendstream\nendobj\n", api.OK},
		{api.Item{Num: 4, Obj: stream("A Z", "\r\n", value.Int(1), value.Name("Z"))}, "4 0 obj\n<</A 1/Length 2/Z/Z>>\nstream\n\r\n\nendstream\nendobj\n", api.OK},
		{api.Item{Num: 4, Obj: full}, "", api.ErrMany},
		{api.Item{Num: 0, Obj: full}, "", api.ErrRange},
		{api.Item{Num: 4, Obj: stream("Length", "", value.Int(0))}, "", api.ErrForm},
		{api.Item{Num: 4, Obj: value.Ref(4, 0)}, "", api.ErrKind},
	} {
		got, e := body.Text(c.item)
		if got != c.want || e != c.err {
			t.Errorf("Text %d = %s, %d, want %s, %d", i, brief(got), e, brief(c.want), c.err)
		}
	}
}

// Promise 8.7.
func TestReadInvertsText(t *testing.T) {
	long := api.Object{Kind: api.KStream, S: strings.Repeat("\n", api.MaxData)}
	for i, o := range append(append(sample.Objects(), sample.Streams()...), long) {
		item := api.Item{Num: 1 + i*31%api.MaxNum, Gen: i * 977 % (api.MaxGen + 1), Obj: o}
		text, e := body.Text(item)
		if o.Kind == api.KRef {
			if text != "" || e != api.ErrKind {
				t.Errorf("Text of a reference = %s, %d", brief(text), e)
			}
			continue
		}
		if e != api.OK {
			t.Errorf("Text of sample %d = %d", i, e)
			continue
		}
		checkRead(t, text, 0, -1, item, len(text)-1, api.OK)
		checkRead(t, text+text, len(text), len(o.S), item, 2*len(text)-1, api.OK)
		num, gen, next, e := body.Head(text, 0)
		if num != item.Num || gen != item.Gen || e != api.OK || !strings.HasSuffix(text[:next], " obj") {
			t.Errorf("Head of sample %d = %d, %d, %d, %d", i, num, gen, next, e)
		}
		want := value.Null()
		if o.Kind == api.KStream {
			want = value.Int(int64(len(o.S)))
		}
		if got, e := body.Length(text, 0); e != api.OK || !value.Same(got, want) {
			t.Errorf("Length of sample %d = %s, %d", i, brief(got), e)
		}
	}
}
