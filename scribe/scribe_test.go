package scribe_test

import (
	"slices"
	"strings"
	"testing"

	"foliant/api"
	"foliant/give"
	"foliant/scribe"
	"foliant/value"
)

func TestFileKeepsItsOrderOfErrors(t *testing.T) {
	long := strings.Repeat("x", api.MaxFile)
	for _, c := range []struct {
		assemble func(w *scribe.Writer)
		size     int
		want     api.Errno
	}{
		{func(w *scribe.Writer) {}, 0, api.OK},
		{func(w *scribe.Writer) { w.Put(long) }, api.MaxFile, api.OK},
		{func(w *scribe.Writer) { w.Put(long); w.Fit() }, api.MaxFile, api.OK},
		{func(w *scribe.Writer) { w.Put(long); w.Put("x") }, 0, api.ErrLong},
		{func(w *scribe.Writer) { w.Put(long); w.Put("x"); give.Up(api.ErrFull) }, 0, api.ErrFull},
		{func(w *scribe.Writer) { w.Put(long); w.Put("x"); w.Fit(); give.Up(api.ErrFull) }, 0, api.ErrLong},
		{func(w *scribe.Writer) { w.Put(long); w.Item(api.Item{Num: 1}) }, 0, api.ErrLong},
		{func(w *scribe.Writer) { w.Put(long); w.Item(api.Item{}) }, 0, api.ErrRange},
		{func(w *scribe.Writer) { w.Header(10) }, 0, api.ErrRange},
		{func(w *scribe.Writer) { w.Table(value.Null()) }, 0, api.ErrKind},
		{func(w *scribe.Writer) { w.Stream(0, value.Null(), -1) }, 0, api.ErrArg},
	} {
		if s, e := scribe.File(c.assemble); len(s) != c.size || e != c.want {
			t.Errorf("File = %d bytes, %d, want %d, %d", len(s), e, c.size, c.want)
		}
	}
}

func TestEntries(t *testing.T) {
	_, e := scribe.File(func(w *scribe.Writer) {
		w.Put("0123456789")
		w.Item(api.Item{Num: 7, Gen: 2})
		w.Enter(api.Slot{Num: 3, Kind: api.SlotPacked, A: 9})
		w.Enter(api.Slot{Num: 5, A: 1})
		w.Enter(api.Slot{Num: 5, A: 2})
		want := []api.Slot{{Num: 3, Kind: api.SlotPacked, A: 9}, {Num: 5, A: 2}, {Num: 7, Kind: api.SlotPlain, A: 10, B: 2}}
		if got := w.Entries(); !slices.Equal(got, want) || !w.Entered(5) || w.Entered(6) {
			t.Errorf("Entries = %v, want %v", got, want)
		}
	})
	if e != api.OK {
		t.Errorf("File has the error %d", e)
	}
}

func TestText(t *testing.T) {
	long := strings.Repeat("x", api.MaxFile-3)
	of := func(pieces ...string) *scribe.Text {
		text := new(scribe.Text)
		for _, piece := range pieces {
			text.Put(piece)
		}
		return text
	}
	for i, c := range []struct {
		text *scribe.Text
		more []*scribe.Text
		size int
		want string
	}{
		{of(), nil, 0, ""},
		{of("ab", "", "c"), nil, 3, "abc"},
		{of("ab"), []*scribe.Text{of(), of("c", "d"), of("e")}, 5, "abcde"},
		{of("ab"), []*scribe.Text{of(long), of("c")}, api.MaxFile, "ab" + long + "c"},
	} {
		for _, text := range c.more {
			c.text.Add(text)
		}
		if c.text.Size() != c.size || c.text.String() != c.want {
			t.Errorf("text %d is %d bytes, want %d", i, c.text.Size(), c.size)
		}
	}
	// What doesn't fit is counted, and not kept.
	for i, c := range []struct {
		text, more *scribe.Text
		size       int
	}{
		{of(long, "abcd"), of(), api.MaxFile + 1},
		{of(long, "abcd", "e"), of("f"), api.MaxFile + 3},
		{of("abcd"), of(long), api.MaxFile + 1},
		{of("ab"), of(long, long, "c"), 2*api.MaxFile - 3},
		{of(long, long), of(long, long), 4*api.MaxFile - 12},
	} {
		c.text.Add(c.more)
		if c.text.Size() != c.size || len(c.text.String()) > api.MaxFile {
			t.Errorf("long text %d is %d bytes, of which %d are kept, want %d", i, c.text.Size(), len(c.text.String()), c.size)
		}
	}
}
