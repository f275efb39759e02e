package scribe_test

import (
	"slices"
	"strings"
	"testing"

	"foliant/api"
	"foliant/give"
	"foliant/scribe"
	"foliant/value"
)

func TestFileKeepsItsOrderOfErrors(t *testing.T) {
	long := strings.Repeat("x", api.MaxFile)
	for _, c := range []struct {
		assemble func(w *scribe.Writer)
		size     int
		want     api.Errno
	}{
		{func(w *scribe.Writer) {}, 0, api.OK},
		{func(w *scribe.Writer) { w.Put(long) }, api.MaxFile, api.OK},
		{func(w *scribe.Writer) { w.Put(long); w.Fit() }, api.MaxFile, api.OK},
		{func(w *scribe.Writer) { w.Put(long); w.Put("x") }, 0, api.ErrLong},
		{func(w *scribe.Writer) { w.Put(long); w.Put("x"); give.Up(api.ErrFull) }, 0, api.ErrFull},
		{func(w *scribe.Writer) { w.Put(long); w.Put("x"); w.Fit(); give.Up(api.ErrFull) }, 0, api.ErrLong},
		{func(w *scribe.Writer) { w.Put(long); w.Item(api.Item{Num: 1}) }, 0, api.ErrLong},
		{func(w *scribe.Writer) { w.Put(long); w.Item(api.Item{}) }, 0, api.ErrRange},
		{func(w *scribe.Writer) { w.Header(10) }, 0, api.ErrRange},
		{func(w *scribe.Writer) { w.Table(value.Null()) }, 0, api.ErrKind},
		{func(w *scribe.Writer) { w.Stream(0, value.Null(), -1) }, 0, api.ErrArg},
	} {
		if s, e := scribe.File(c.assemble); len(s) != c.size || e != c.want {
			t.Errorf("File = %d bytes, %d, want %d, %d", len(s), e, c.size, c.want)
		}
	}
}

func TestEntries(t *testing.T) {
	_, e := scribe.File(func(w *scribe.Writer) {
		w.Put("0123456789")
		w.Item(api.Item{Num: 7, Gen: 2})
		w.Enter(api.Slot{Num: 3, Kind: api.SlotPacked, A: 9})
		w.Enter(api.Slot{Num: 5, A: 1})
		w.Enter(api.Slot{Num: 5, A: 2})
		want := []api.Slot{{Num: 3, Kind: api.SlotPacked, A: 9}, {Num: 5, A: 2}, {Num: 7, Kind: api.SlotPlain, A: 10, B: 2}}
		if got := w.Entries(); !slices.Equal(got, want) || !w.Entered(5) || w.Entered(6) {
			t.Errorf("Entries = %v, want %v", got, want)
		}
	})
	if e != api.OK {
		t.Errorf("File has the error %d", e)
	}
}
