package chain_test

import (
	"fmt"
	"math"
	"slices"
	"strings"
	"testing"

	"foliant/api"
	"foliant/body"
	"foliant/chain"
	"foliant/cross"
	"foliant/sample"
	"foliant/table"
	"foliant/value"
)

// same reports whether two sections are equal.
func same(a, b api.Section) bool {
	return a.At == b.At && slices.Equal(a.Slots, b.Slots) && value.Same(a.Trailer, b.Trailer) && a.Prev == b.Prev && a.Hybrid == b.Hybrid && a.Own == b.Own
}

// step is the distance of the sections of the files that these tests make.
const step = 300

// A part is a section of such a file: what it is, and the numbers of those to which its Prev and its Hybrid lead, or less than 0 if they lead nowhere.
type part struct {
	kind         string
	prev, hybrid int
}

// file returns the text that has each part at so many steps. Those of no known kind stand there as they are.
func file(parts ...part) string {
	var out strings.Builder
	for i, p := range parts {
		out.WriteString(fmt.Sprintf("%-*s", step, text(i, p)))
	}
	return out.String()
}

// text returns the text of a part.
func text(i int, p part) string {
	x := api.Section{Slots: slotsOf(i, 1, i+2), Trailer: sample.Dict("Root", value.Ref(i+1, 0)), Prev: -1, Own: i + 1}
	links := func(key string, to int) {
		if to >= 0 {
			x.Trailer, _ = value.Set(x.Trailer, key, value.Int(int64(to*step)))
		}
	}
	switch p.kind {
	case "table":
		links("Prev", p.prev)
		links("XRefStm", p.hybrid)
		s, e := table.Text(x)
		return must(s, e)
	case "stream":
		if p.prev >= 0 {
			x.Prev = p.prev * step
		}
		i := must(cross.Make(x))
		if p.hybrid >= 0 {
			i.Obj = must(value.Set(i.Obj, "XRefStm", value.Int(int64(p.hybrid*step))))
		}
		return must(body.Text(i))
	}
	return p.kind
}

// must returns v, which comes without an error.
func must[T any](v T, e api.Errno) T {
	if e != api.OK {
		panic(fmt.Sprint("error ", e))
	}
	return v
}

// Promise 22.1.
func TestSection(t *testing.T) {
	s := file(part{"table", -1, -1}, part{"stream", -1, -1}, part{"table", 0, 1}, part{"stream", 7, 0}, part{" xref 0 0 trailer<<>>", -1, -1})
	for i := range 4 {
		got, e := chain.Section(s, i*step)
		var want api.Section
		if i%2 == 0 {
			want, _, _ = table.Read(s, i*step)
		} else {
			item, _, _ := body.Read(s, i*step, -1)
			want, _ = cross.Read(item, i*step)
		}
		if !same(got, want) || e != api.OK || got.At != i*step || len(got.Slots) != 2 || (got.Own == 0) != (i%2 == 0) {
			t.Errorf("Section %d = %s, %d, want %s", i, brief(got), e, brief(want))
		}
	}
	refused(t, s, 4*step, api.ErrForm)
	if x, e := chain.Section(s, 4*step+1); e != api.OK || x.At != 4*step+1 || x.Own != 0 {
		t.Errorf("Section = %s, %d", brief(x), e)
	}
	if x, e := chain.Section(s, 2*step-1); e != api.ErrForm {
		t.Errorf("Section before a table = %s, %d", brief(x), e)
	}
	if x, e := chain.Section(s, step-1); e != api.OK || x.At != step-1 || x.Own != 2 {
		t.Errorf("Section before a stream = %s, %d", brief(x), e)
	}
	for _, at := range []int{-1, len(s), len(s) + 1, math.MinInt, math.MaxInt} {
		refused(t, s, at, api.ErrPlace)
	}
	refused(t, "", 0, api.ErrPlace)
}

// refused checks that neither a section nor a chain can be read at an offset.
func refused(t *testing.T, s string, at int, want api.Errno) {
	t.Helper()
	if x, e := chain.Section(s, at); !same(x, api.Section{}) || e != want {
		t.Errorf("Section(%s, %d) = %s, %d, want %d", brief(s), at, brief(x), e, want)
	}
	if l, e := chain.Read(s, at); len(l) > 0 || e != want {
		t.Errorf("Read(%s, %d) = %s, %d, want %d", brief(s), at, brief(l), e, want)
	}
}

// Promise 22.1: the errors of the chapters below.
func TestSectionErrors(t *testing.T) {
	for s, want := range map[string]api.Errno{
		"xref": api.ErrTable, "xrefs 0 0 trailer<<>>": api.ErrTable, "xref 0 1 0 0 n": api.ErrTable, "xref trailer<</Prev -1>>": api.ErrTable, "xref trailer[]": api.ErrTable, "xref(": api.ErrTable,
		" ": api.ErrEnd, "xre": api.ErrForm, "trailer<<>>": api.ErrForm, "1 0": api.ErrEnd, ")": api.ErrForm, "0 0 obj": api.ErrRange, "1 0 obj<</A 1/A 2>>endobj": api.ErrTwice,
		"1 0 obj 5 endobj": api.ErrStream, "1 0 obj 5 0 R endobj": api.ErrKind, "1 0 obj<</Type/XRef/Size 0/W[1 1 1]>>endobj": api.ErrStream, "1 0 obj<</Length 0>>stream\nendstream endobj": api.ErrStream,
		"1 0 obj<</Type/XRef/Size 0/W[1 1 1]>>stream\nendstream endobj": api.ErrForm, "1 0 obj<</Type/XRef/Size 0/W[1 1 1]/Length 2 0 R>>stream\nendstream endobj 2 0 obj 0 endobj": api.ErrKind, "1 0 obj<</Type/XRef/Size 0/W[1 1 1]/Length -1>>stream\nendstream endobj": api.ErrRange,
		"1 0 obj<</Type/XRef/Size 1/W[1 1 1]/Length 0>>stream\nendstream endobj": api.ErrStream, "1 0 obj<</Type/XRef/Size 0/W[1 1 1]/Length 1/Filter/x>>stream\nxendstream endobj": api.ErrFilter, "1 0 obj<</Type/XRef/Size 0/W[1 1 1]/Length 1/Filter/AHx>>stream\nxendstream endobj": api.ErrForm,
		"1 0 obj<</Type/ObjStm/Size 0/W[1 1 1]/Length 0>>stream\nendstream endobj": api.ErrStream, "1 0 obj<</Type/XRef/Size 0/W[1 1 1]/Length 0>>stream\nendstream": api.ErrEnd,
	} {
		refused(t, s, 0, want)
		refused(t, "] "+s, 2, want)
	}
}

// checkChain checks that the chain from the last part leads through the given ones.
func checkChain(t *testing.T, parts []part, want ...int) {
	t.Helper()
	s := file(parts...)
	l, e := chain.Read(s, (len(parts)-1)*step)
	var got []int
	for _, x := range l {
		got = append(got, x.At/step)
		if one, e := chain.Section(s, x.At); !same(one, x) || e != api.OK {
			t.Errorf("Read(%v) has the section %s, which is %s", parts, brief(x), brief(one))
		}
	}
	if !slices.Equal(got, want) || e != api.OK {
		t.Errorf("Read(%v) = %v, %d, want %v", parts, got, e, want)
	}
	slices.Sort(got)
	if len(slices.Compact(got)) != len(l) || len(l) > api.MaxChain {
		t.Errorf("Read(%v) has %d sections", parts, len(l))
	}
}

// breaks checks that the chain from the last part has an error.
func breaks(t *testing.T, want api.Errno, parts ...part) {
	t.Helper()
	if l, e := chain.Read(file(parts...), (len(parts)-1)*step); len(l) > 0 || e != want {
		t.Errorf("Read(%v) = %s, %d, want %d", parts, brief(l), e, want)
	}
}

// Promises 22.2 and 22.5.
func TestRead(t *testing.T) {
	for _, kind := range []string{"table", "stream"} {
		last := part{kind, -1, -1}
		checkChain(t, []part{last}, 0)
		checkChain(t, []part{last, {"table", 0, -1}}, 1, 0)
		checkChain(t, []part{last, {"stream", 0, -1}, {"table", 1, -1}}, 2, 1, 0)
		checkChain(t, []part{{"table", 1, -1}, last, {"stream", 0, -1}}, 2, 0, 1)
		checkChain(t, []part{last, {"stream", -1, -1}, {"table", 0, 1}}, 2, 1, 0)
		checkChain(t, []part{last, {"stream", -1, -1}, {"table", -1, 1}}, 2, 1)
		checkChain(t, []part{last, {"stream", 0, -1}, {"table", -1, 1}}, 2, 1)
		checkChain(t, []part{last, {"stream", 2, 2}, {"table", 0, 1}}, 2, 1, 0)
		checkChain(t, []part{last, {"stream", 99, -1}, {"stream", 99, -1}, {"table", 0, 1}, {"table", 3, 2}}, 4, 2, 3, 1, 0)
		checkChain(t, []part{last, {"x", -1, -1}, {"stream", 0, 1}}, 2, 0)
		breaks(t, api.ErrLoop, part{kind, 0, -1})
		breaks(t, api.ErrLoop, part{kind, 1, -1}, part{"table", 0, -1})
		breaks(t, api.ErrLoop, part{kind, 0, -1}, part{"stream", 0, -1})
		breaks(t, api.ErrStream, last, part{"table", -1, -1}, part{"table", 0, 1})
		breaks(t, api.ErrPlace, last, part{kind, 99, -1})
		breaks(t, api.ErrForm, last, part{"x", -1, -1}, part{kind, 1, -1})
	}
	breaks(t, api.ErrLoop, part{"table", -1, 0})
	breaks(t, api.ErrLoop, part{"stream", -1, -1}, part{"table", 0, 0})
	breaks(t, api.ErrLoop, part{"table", -1, 1}, part{"table", 0, -1})
	breaks(t, api.ErrLoop, part{"stream", -1, -1}, part{"table", -1, 0}, part{"table", 1, 0})
	breaks(t, api.ErrPlace, part{"table", 0, 99})
	breaks(t, api.ErrForm, part{"x", -1, -1}, part{"table", 1, 0})
	breaks(t, api.ErrTable, part{"xref x", -1, -1}, part{"table", 1, 0})
	breaks(t, api.ErrStream, part{"1 0 obj 5 endobj", -1, -1}, part{"table", 1, 0})
	breaks(t, api.ErrStream, part{"table", 99, -1}, part{"table", 99, 0})
	breaks(t, api.ErrKind, part{"1 0 obj<</Length 2 0 R>>stream\n", -1, -1}, part{"stream", 0, -1})
	for _, s := range []string{file(part{"table", 0, -1}), "xref trailer<</Prev 0>>"} {
		if l, e := chain.Read(s, 0); len(l) > 0 || e != api.ErrLoop {
			t.Errorf("Read of a table that leads to itself = %s, %d", brief(l), e)
		}
	}
}

// Promises 22.2 and 22.5: how many sections there may be.
func TestReadMany(t *testing.T) {
	row := func(kind string, n int, changes ...part) []part {
		var parts []part
		for i := range n {
			parts = append(parts, part{kind, i - 1, -1})
		}
		return append(changes, parts[len(changes):]...)
	}
	var down []int
	for i := range api.MaxChain {
		down = append(down, api.MaxChain-1-i)
	}
	for _, kind := range []string{"table", "stream"} {
		checkChain(t, row(kind, api.MaxChain), down...)
		breaks(t, api.ErrMany, row(kind, api.MaxChain+1)...)
		breaks(t, api.ErrMany, row(kind, api.MaxChain+1, part{"x", -1, -1})...)
		breaks(t, api.ErrMany, row(kind, api.MaxChain, part{kind, 99, -1})...)
		breaks(t, api.ErrLoop, row(kind, api.MaxChain, part{kind, 5, -1})...)
		breaks(t, api.ErrMany, row("table", api.MaxChain+1, part{kind, -1, -1}, part{"table", -1, 0})...)
		breaks(t, api.ErrForm, row(kind, api.MaxChain, part{"x", -1, -1})...)
	}
	whole := row("table", api.MaxChain, part{"stream", -1, -1}, part{"table", -1, 0})
	checkChain(t, whole, append(down[:api.MaxChain-2:api.MaxChain-2], 1, 0)...)
	breaks(t, api.ErrMany, append(whole, part{"table", api.MaxChain - 1, -1})...)
	breaks(t, api.ErrLoop, row("table", api.MaxChain, part{"table", -1, 9})...)
}
