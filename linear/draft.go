package linear

import (
	"cmp"
	"slices"
	"strings"

	"foliant/api"
	"foliant/body"
	"foliant/give"
	"foliant/head"
	"foliant/hint"
	"foliant/scribe"
	"foliant/table"
	"foliant/value"
	"foliant/web"
)

const minor = 7

// A draft has all that a linearized file is made of, but for the numbers that tell where what is.
type draft struct {
	first int
	parts []part
	// front has the texts of the first part, and back those of all others.
	front, back *scribe.Text
	// trailer has the Size that all sections tell.
	trailer api.Object
}

// A part tells of the items of a group.
type part struct {
	// slots has the entries of the items, with offsets from the beginning of the draft's text that they are in.
	slots []api.Slot
	// at is where the part begins in that text, and size is its length.
	at, size int
}

// draftOf returns the draft of a document's file.
func draftOf(d api.Doc, p plan) draft {
	w := web.Of(d)
	f := draft{first: p.first, front: new(scribe.Text), back: new(scribe.Text)}
	text := f.front
	for _, group := range p.groups {
		f.parts = append(f.parts, partOf(w, group, text))
		text = f.back
	}
	last := d.Items[len(d.Items)-1].Num
	f.trailer = give.Value(value.Set(d.Trailer, "Size", value.Int(int64(last+1))))
	return f
}

// partOf returns the part of a group, whose items it puts into text.
func partOf(w web.Web, group []int, text *scribe.Text) part {
	p := part{at: text.Size()}
	for _, num := range group {
		i, _ := w.Num(num)
		p.slots = append(p.slots, api.Slot{Num: num, Kind: api.SlotPlain, A: text.Size(), B: i.Gen})
		text.Put(give.Value(body.Text(i)))
	}
	p.size = text.Size() - p.at
	return p
}

// file returns the linearized file. It is written for a guess of its layout until that agrees with the one that is found in writing: all numbers have as many digits in either, so that the second guess does.
func (f draft) file() string {
	guess := api.Layout{First: f.first, Pages: len(f.parts) - 1, Hints: f.front.Size()}
	for {
		s, found := f.written(guess)
		if found.Length > api.MaxFile {
			give.Up(api.ErrLong)
		}
		if found == guess {
			return s
		}
		guess = found
	}
}

// written returns the file as it is with the layout l, and the layout that it has.
func (f draft) written(l api.Layout) (string, api.Layout) {
	var s scribe.Text
	s.Put(give.Value(head.Text(minor)))
	s.Put(parameters(l))
	start := s.Size()
	s.Put(f.firstSection(l))
	s.Put(head.Tail(0))
	hints := give.Value(hint.Text(f.hints(s.Size())))
	s.Add(f.front)
	found := api.Layout{First: l.First, Pages: l.Pages, Hints: s.Size()}
	s.Put(give.Value(body.Text(api.Item{Num: own, Obj: give.Value(value.Stream(give.Value(value.Dict()), hints))})))
	found.End = s.Size()
	found.Size = found.End - found.Hints
	s.Add(f.back)
	found.Main = s.Size()
	s.Put(f.mainSection(found.End))
	s.Put(head.Tail(start))
	found.Length = s.Size()
	return s.String(), found
}

// hints returns the hints of a file whose first items begin at offset at.
func (f draft) hints(at int) []api.Hint {
	var list []api.Hint
	for i, p := range f.parts[:len(f.parts)-1] {
		h := api.Hint{Objects: len(p.slots), Bytes: p.size, At: p.at}
		switch {
		case i == 0:
			h.At = at
		case h.Objects == 0:
			h.At = 0
		}
		list = append(list, h)
	}
	return list
}

// firstSection returns the text of the section that tells of the first part, which ends where the hints begin.
func (f draft) firstSection(l api.Layout) string {
	const end = ">>\n"
	text := f.section(moved(f.parts[0].slots, l.Hints-f.front.Size()))
	return strings.TrimSuffix(text, end) + " /Prev " + padded(l.Main) + end
}

// mainSection returns the text of the section that tells of all other parts, which begin at offset at.
func (f draft) mainSection(at int) string {
	slots := []api.Slot{{Kind: api.SlotFree, B: api.MaxGen}}
	for _, p := range f.parts[1:] {
		slots = append(slots, moved(p.slots, at)...)
	}
	slices.SortFunc(slots, func(a, b api.Slot) int { return cmp.Compare(a.Num, b.Num) })
	return f.section(slots)
}

// section returns the text of a section with the given entries.
func (f draft) section(slots []api.Slot) string {
	return give.Value(table.Text(api.Section{Slots: slots, Trailer: f.trailer}))
}

// moved returns entries whose offsets are greater by so much.
func moved(slots []api.Slot, by int) []api.Slot {
	slots = slices.Clone(slots)
	for i := range slots {
		slots[i].A += by
	}
	return slots
}
