package ops_test

import (
	"slices"
	"strings"
	"testing"

	"foliant/api"
	"foliant/lex"
	"foliant/octet"
	"foliant/ops"
	"foliant/parse"
	"foliant/sample"
	"foliant/value"
)

// mixer makes choices that look irregular and are always the same.
type mixer uint32

// pick chooses a number from 0 to below, not included.
func (x *mixer) pick(below int) int {
	*x = *x*1664525 + 1013904223
	return int(*x>>8) % below
}

// hasRef reports whether o contains a reference.
func hasRef(o api.Object) bool { return o.Kind == api.KRef || slices.ContainsFunc(o.Kids, hasRef) }

func isWhite(s string) bool { return s != "" && octet.White(s[0]) }

// read does what Read does, by the words of the chapter.
func read(s string) ([]api.Op, api.Fault) {
	var l []api.Op
	var args []api.Object
	for at := 0; ; {
		start := octet.Skip(s, at)
		fault := func(e api.Errno) ([]api.Op, api.Fault) { return nil, api.Fault{At: start, Err: e} }
		t, e := lex.Next(s, at)
		switch {
		case e != api.OK:
			return fault(e)
		case t.Kind == api.TEnd && len(args) > 0:
			return fault(api.ErrEnd)
		case t.Kind == api.TEnd:
			return l, api.Fault{}
		case t.Kind != api.TWord || slices.Contains([]string{"true", "false", "null"}, t.S):
			o, to, e := parse.Object(s, at)
			switch {
			case e != api.OK:
				return fault(e)
			case hasRef(o):
				return fault(api.ErrForm)
			case len(args) == api.MaxArgs:
				return fault(api.ErrMany)
			}
			args, at = append(args, o), to
		case len(l) == api.MaxOps:
			return fault(api.ErrMany)
		case t.S == "R" || t.S == "ID" || t.S == "EI" || t.S == "BI" && len(args) > 0:
			return fault(api.ErrForm)
		case t.S == "BI":
			o, to, f := readImage(s, t.To)
			if f.Err != api.OK {
				return nil, f
			}
			l, at = append(l, o), to
		default:
			l, args, at = append(l, api.Op{Name: t.S, Args: args}), nil, t.To
		}
	}
}

// readImage reads what follows BI, and returns the offset after it.
func readImage(s string, at int) (api.Op, int, api.Fault) {
	o := api.Op{Name: "BI", Args: []api.Object{sample.Dict("")}}
	met := map[string]bool{}
	for {
		start := octet.Skip(s, at)
		fault := func(e api.Errno) (api.Op, int, api.Fault) { return api.Op{}, 0, api.Fault{At: start, Err: e} }
		t, e := lex.Next(s, at)
		if t.Kind == api.TWord && t.S == "ID" {
			at = t.To
			break
		}
		switch {
		case e != api.OK:
			return fault(e)
		case t.Kind == api.TEnd:
			return fault(api.ErrEnd)
		case t.Kind != api.TName:
			return fault(api.ErrForm)
		case met[t.S]:
			return fault(api.ErrTwice)
		case len(met) == api.MaxKids:
			return fault(api.ErrMany)
		}
		met[t.S] = true
		start = octet.Skip(s, t.To)
		v, to, e := parse.Object(s, t.To)
		switch {
		case e != api.OK:
			return fault(e)
		case hasRef(v):
			return fault(api.ErrForm)
		case value.Depth(v) == api.MaxDepth:
			return fault(api.ErrDeep)
		}
		o.Args[0], _ = value.Set(o.Args[0], t.S, v)
		at = to
	}
	rest := s[at:]
	if !isWhite(rest) {
		return api.Op{}, 0, api.Fault{At: at, Err: api.ErrForm}
	}
	rest = rest[1:]
	for i := range rest {
		after, ok := strings.CutPrefix(rest[i+1:], "EI")
		if isWhite(rest[i:]) && ok && (after == "" || isWhite(after)) {
			o.Data = rest[:i]
			return o, len(s) - len(after), api.Fault{}
		}
	}
	return api.Op{}, 0, api.Fault{At: len(s), Err: api.ErrEnd}
}

// content makes a content stream of pieces, few of which are wrong where they stand.
func content(x *mixer) string {
	pieces := []string{"1", "0", "-7.5", "(a)", "/A", "/B", "true", "null", "[1 0]", "<</A 1>>", "q", "rg", "x", "Tj", "1 BI", "\nBI ID EI EI\n", " BI/W 1/H (EI) ID a b EI ", "BI ID a EI", "\n", "%c\r"}
	wrong := []string{"R", "ID", "EI", "BI", "/W", "1 0 R", "[", "]", "<<", ">>", "(", ")", "<6", "{", "#", "/#0", "99999999999", "[1 0 R]", " EI ", "\x00"}
	var s strings.Builder
	for range x.pick(14) {
		if x.pick(16) == 0 {
			s.WriteString(wrong[x.pick(len(wrong))])
		} else {
			s.WriteString(pieces[x.pick(len(pieces))])
		}
		s.WriteString([]string{" ", " ", "\n", "", "\r\n"}[x.pick(5)])
	}
	return s.String()
}

// Promises 43.1 and 43.5, by the words of the chapter.
func TestReadByTheWords(t *testing.T) {
	x, found := mixer(43), map[api.Errno]int{}
	for range 60000 {
		s := content(&x)
		want, wantFault := read(s)
		got, f := ops.Read(s)
		if !sameOps(got, want) || f != wantFault {
			t.Errorf("Read(%q) = %s, %v, want %s, %v", s, brief(got), f, brief(want), wantFault)
		}
		found[f.Err]++
		if f.Err != api.OK {
			continue
		}
		text, e := ops.Text(got)
		if back, f := ops.Read(text); !sameOps(back, got) || e != api.OK || f != (api.Fault{}) {
			t.Errorf("Read after Text of %q = %s, %d, %v", s, brief(back), e, f)
		}
	}
	for _, e := range []api.Errno{api.OK, api.ErrForm, api.ErrEnd, api.ErrRange} {
		if found[e] < 200 {
			t.Errorf("the errors are %v", found)
		}
	}
}

// operators makes valid operators.
func operators(x *mixer, objects []api.Object) []api.Op {
	var l []api.Op
	names := []string{"q", "Tj", "x", "'", "\"", "T*", "1.2.3", "-", "nul", "BIx", "\xff", "Rx"}
	data := []string{"", "EI", "EI ", "a\nEIb", " ", "\x00\x00", " E", sample.Bytes(), "aEI"}
	for range x.pick(6) {
		if x.pick(5) == 0 {
			o := image(data[x.pick(len(data))], "")
			for _, key := range []string{"A", "W x", "", "ID"} {
				if v := objects[x.pick(len(objects))]; value.Depth(v) < api.MaxDepth && x.pick(2) == 0 {
					o.Args[0], _ = value.Set(o.Args[0], key, v)
				}
			}
			l = append(l, o)
			continue
		}
		o := op(names[x.pick(len(names))])
		for range x.pick(5) {
			o.Args = append(o.Args, objects[x.pick(len(objects))])
		}
		l = append(l, o)
	}
	return l
}

// Promises 43.5 and 43.6.
func TestReadAfterText(t *testing.T) {
	objects := slices.DeleteFunc(sample.Objects(), func(o api.Object) bool { return hasRef(o) || len(o.Kids) > 1000 || len(o.S) > 1000 })
	x := mixer(44)
	for range 4000 {
		a, b := operators(&x, objects), operators(&x, objects)
		was := brief(a)
		first, e1 := ops.Text(a)
		second, e2 := ops.Text(b)
		both, e3 := ops.Text(append(slices.Clone(a), b...))
		if e1 != api.OK || e2 != api.OK || e3 != api.OK || both != first+second {
			t.Fatalf("Text(%s) = %s, %d, %d, %d", brief(a), brief(both), e1, e2, e3)
		}
		if l, f := ops.Read(first); !sameOps(l, a) || f != (api.Fault{}) {
			t.Errorf("Read(%s) = %s, %v", brief(first), brief(l), f)
		}
		for _, s := range []string{first + "\n" + second, strings.TrimRight(first, "\n") + "\n" + second, first + second} {
			if l, f := ops.Read(s); !sameOps(l, append(slices.Clone(a), b...)) || f != (api.Fault{}) {
				t.Errorf("Read(%s) = %s, %v", brief(s), brief(l), f)
			}
		}
		if brief(a) != was {
			t.Errorf("the operators have changed: %s", was)
		}
	}
}

// Promise 43.6: streams as they come, the first of which may end with a comment.
func TestJoined(t *testing.T) {
	x, n := mixer(45), 0
	for range 20000 {
		a, b := content(&x), content(&x)
		if x.pick(5) == 0 {
			a += "% EI"
		}
		first, f1 := ops.Read(a)
		second, f2 := ops.Read(b)
		if f1.Err != api.OK || f2.Err != api.OK {
			continue
		}
		n++
		if l, f := ops.Read(a + "\n" + b); !sameOps(l, append(first, second...)) || f != (api.Fault{}) {
			t.Errorf("Read(%q) = %s, %v", a+"\n"+b, brief(l), f)
		}
	}
	if n < 500 {
		t.Errorf("%d pairs are read", n)
	}
}
