package write_test

import (
	"fmt"
	"strconv"
	"strings"
	"testing"

	"foliant/api"
	"foliant/lex"
	"foliant/sample"
	"foliant/value"
	"foliant/write"
)

// brief shows the beginning of anything.
func brief(x any) string { return fmt.Sprintf("%.200s", fmt.Sprintf("%q", fmt.Sprint(x))) }

// Promise 7.1.
func TestText(t *testing.T) {
	for _, c := range []struct {
		o    api.Object
		want string
	}{
		{value.Null(), "null"}, {value.Bool(true), "true"}, {value.Bool(false), "false"},
		{value.Int(0), "0"}, {value.Int(-7), "-7"}, {value.Int(api.MaxInt), "2147483647"}, {value.Int(-api.MaxInt), "-2147483647"},
		{value.Real(0), "0.0"}, {value.Real(-2500), "-0.25"}, {value.Real(api.MaxFix), "107374.1824"}, {value.Real(-api.MaxFix), "-107374.1824"},
		{value.String("a(b\\\n"), "(a\\(b\\\\\\012)"}, {value.String(""), "()"},
		{value.Name("A B#"), "/A#20B#23"}, {value.Name(""), "/"},
		{value.Ref(1, 0), "1 0 R"}, {value.Ref(8191, 65535), "8191 65535 R"},
		{value.Array(), "[]"}, {value.Array(value.Null(), value.Int(1), value.Real(10000)), "[null 1 1.0]"},
		{value.Array(value.Ref(1, 0), value.Int(2), value.Array(value.String("x")), value.Bool(true)), "[1 0 R 2[(x)]true]"},
		{sample.Dict(""), "<<>>"}, {sample.Dict("A", value.Int(1)), "<</A 1>>"},
		{sample.Dict("A B", value.Int(1), value.Array(value.Name("x"), value.String("y"), value.Ref(2, 0))), "<</A 1/B[/x(y)2 0 R]>>"},
		{sample.Dict("A B C", sample.Dict("", []api.Object{}...), value.Name(""), value.Name("C")), "<</A<<>>/B//C/C>>"},
		{api.Object{Kind: api.KDict, Keys: []string{"", "a#"}, Kids: []api.Object{value.Int(1), value.Name("")}}, "<</ 1/a#23/>>"},
		{value.Array(value.Name(""), value.Int(1), value.Name("")), "[/ 1/]"},
	} {
		checkText(t, c.o, c.want, api.OK)
	}
}

// checkText holds what Text, Size and Many answer against what they should answer.
func checkText(t *testing.T, o api.Object, want string, wantErr api.Errno) {
	t.Helper()
	got, e := write.Text(o)
	if got != want || e != wantErr {
		t.Errorf("Text(%s) = %s, %d, want %s, %d", brief(o), brief(got), e, brief(want), wantErr)
	}
	if n := write.Size(o); n != len(want) {
		t.Errorf("Size(%s) = %d, want %d", brief(o), n, len(want))
	}
	if wantErr == api.OK {
		want += "\n"
	}
	if got, e := write.Many(o); got != want || e != wantErr {
		t.Errorf("Many(%s) = %s, %d, want %d", brief(o), brief(got), e, wantErr)
	}
}

// Promise 7.1.
func TestTextErrors(t *testing.T) {
	type o = api.Object
	for _, c := range []struct {
		o    api.Object
		want api.Errno
	}{
		{o{Kind: api.KStream}, api.ErrKind},
		{o{Kind: api.KStream, Keys: []string{"A"}, Kids: []o{value.Int(1)}, S: "x"}, api.ErrKind},
		{o{Kind: api.KStream, Keys: []string{"A"}}, api.ErrForm},
		{o{Kind: api.KStream, S: strings.Repeat("x", api.MaxData+1)}, api.ErrLong},
		{o{Kind: 99}, api.ErrKind},
		{o{Kind: api.KInt, G: 1}, api.ErrKind},
		{value.Array(o{Kind: api.KStream}), api.ErrKind},
		{value.Ref(0, 0), api.ErrRange},
		{value.Array(value.Array(value.Ref(1, -1)), o{Kind: 99}), api.ErrRange},
		{value.Real(api.MaxFix + 1), api.ErrRange},
		{value.String(strings.Repeat("x", api.MaxString+1)), api.ErrLong},
		{sample.Wide(api.MaxKids + 1), api.ErrMany},
		{value.Name("\x00"), api.ErrForm},
		{sample.Dict("A", value.Null()), api.ErrForm},
		{sample.Nest(value.Int(1), api.MaxDepth), api.ErrDeep},
	} {
		checkText(t, c.o, "", c.want)
	}
}

// Promise 7.1.
func TestMany(t *testing.T) {
	one, wrong := value.Int(1), value.Ref(0, 0)
	for i, c := range []struct {
		l    []api.Object
		want string
		err  api.Errno
	}{
		{nil, "", api.OK},
		{[]api.Object{one}, "1\n", api.OK},
		{[]api.Object{one, value.Name(""), value.Array(one, one), value.Null()}, "1\n/\n[1 1]\nnull\n", api.OK},
		{[]api.Object{one, wrong, value.Name("\x00")}, "", api.ErrRange},
		{[]api.Object{one, value.Name("\x00"), wrong}, "", api.ErrForm},
		{[]api.Object{{Kind: api.KStream}, wrong}, "", api.ErrKind},
	} {
		if got, e := write.Many(c.l...); got != c.want || e != c.err {
			t.Errorf("Many %d = %q, %d, want %q, %d", i, got, e, c.want, c.err)
		}
	}
}

// tokens returns the tokens that the parts of o are, each as its kind and what it holds.
func tokens(o api.Object) []string {
	token := func(kind int, n int64, s string) string { return fmt.Sprint(kind, " ", n, " ", s) }
	mark := func(s string) string { return token(api.TMark, 0, s) }
	switch o.Kind {
	case api.KNull:
		return []string{token(api.TWord, 0, "null")}
	case api.KBool:
		return []string{token(api.TWord, 0, strconv.FormatBool(o.N == 1))}
	case api.KRef:
		return []string{token(api.TInt, o.N, ""), token(api.TInt, int64(o.G), ""), token(api.TWord, 0, "R")}
	case api.KArray:
		list := []string{mark("[")}
		for _, kid := range o.Kids {
			list = append(list, tokens(kid)...)
		}
		return append(list, mark("]"))
	case api.KDict:
		list := []string{mark("<<")}
		for i, kid := range o.Kids {
			list = append(append(list, token(api.TName, 0, o.Keys[i])), tokens(kid)...)
		}
		return append(list, mark(">>"))
	}
	kind := map[int]int{api.KInt: api.TInt, api.KReal: api.TReal, api.KString: api.TString, api.KName: api.TName}[o.Kind]
	return []string{token(kind, o.N, o.S)}
}

// Promise 7.2.
func TestTextIsTokens(t *testing.T) {
	texts := map[string]api.Object{}
	for i, o := range sample.Objects() {
		text, e := write.Text(o)
		if e != api.OK || write.Size(o) != len(text) {
			t.Errorf("object %d: %d, Size %d", i, e, write.Size(o))
		}
		list, f := lex.All(text)
		if f.Err != api.OK {
			t.Errorf("object %d: the fault %v in its text", i, f)
			continue
		}
		var got []string
		at := 0
		for _, token := range list {
			got = append(got, fmt.Sprint(token.Kind, " ", token.N, " ", token.S))
			if gap := text[at:token.At]; gap != "" && gap != " " {
				t.Errorf("object %d: %q between tokens", i, gap)
			}
			at = token.To
		}
		if want := tokens(o); fmt.Sprint(got) != fmt.Sprint(want) || at != len(text) {
			t.Errorf("object %d: %s", i, brief(got))
		}
		if other, ok := texts[text]; ok && !value.Same(o, other) {
			t.Errorf("object %d has the text of another: %s", i, brief(text))
		}
		texts[text] = o
	}
}
