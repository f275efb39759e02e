// Package scribe puts files together. The writers of whole files and of updates share it.
package scribe

import (
	"cmp"
	"maps"
	"slices"
	"strings"

	"foliant/api"
	"foliant/body"
	"foliant/cross"
	"foliant/give"
	"foliant/head"
	"foliant/table"
)

// A Text is put together piece by piece. What is too long for a file is only counted, since objects may share the memory of their data, of which their texts would take many times as much.
type Text struct {
	kept strings.Builder
	// size is the length of all that was put, whether it is kept or not.
	size int
}

// Put puts a piece.
func (t *Text) Put(piece string) {
	t.size += len(piece)
	if t.size <= api.MaxFile {
		t.kept.WriteString(piece)
	}
}

// Add puts all that was put into another text.
func (t *Text) Add(other *Text) {
	t.Put(other.kept.String())
	t.size += other.size - other.kept.Len()
}

// Size returns the length of all that was put.
func (t *Text) Size() int { return t.size }

// String returns all that was put, if it fits in a file.
func (t *Text) String() string { return t.kept.String() }

// A Writer writes a file from its beginning to its end. Its methods give up with the first error.
type Writer struct {
	Text
	// slots has the entry of each number.
	slots map[int]api.Slot
}

// File returns the file that assemble writes, or the error with which it gives up, or else ErrLong if the file is too long.
func File(assemble func(w *Writer)) (string, api.Errno) {
	return give.Caught(func() string {
		w := &Writer{slots: map[int]api.Slot{}}
		assemble(w)
		w.Fit()
		return w.String()
	})
}

// Fit gives up if what was put is too long already.
func (w *Writer) Fit() {
	if w.size > api.MaxFile {
		give.Up(api.ErrLong)
	}
}

// Header puts the header of a file of version 1 and minor.
func (w *Writer) Header(minor int) { w.Put(give.Value(head.Text(minor))) }

// Item puts the text of an item, and enters where it begins.
func (w *Writer) Item(i api.Item) {
	text := give.Value(body.Text(i))
	w.Enter(api.Slot{Num: i.Num, Kind: api.SlotPlain, A: w.size, B: i.Gen})
	w.Put(text)
}

// Enter takes in the entry of a number.
func (w *Writer) Enter(slot api.Slot) { w.slots[slot.Num] = slot }

// Entered reports whether a number has an entry.
func (w *Writer) Entered(num int) bool {
	_, ok := w.slots[num]
	return ok
}

// Entries returns all entries, in increasing order of their numbers.
func (w *Writer) Entries() []api.Slot {
	return slices.SortedFunc(maps.Values(w.slots), func(a, b api.Slot) int { return cmp.Compare(a.Num, b.Num) })
}

// Table puts a table of all entries, and the end of the file.
func (w *Writer) Table(trailer api.Object) {
	at := w.size
	w.Put(give.Value(table.Text(api.Section{Slots: w.Entries(), Trailer: trailer})))
	w.Put(head.Tail(at))
}

// Stream puts a cross-reference stream with the number own of all entries and its own, and the end of the file. The section before it begins at prev, which is -1 if there is none.
func (w *Writer) Stream(own int, trailer api.Object, prev int) {
	at := w.size
	w.Enter(api.Slot{Num: own, Kind: api.SlotPlain, A: at})
	w.Item(give.Value(cross.Make(api.Section{Slots: w.Entries(), Trailer: trailer, Prev: prev, Own: own})))
	w.Put(head.Tail(at))
}
