package update

import (
	"foliant/api"
	"foliant/body"
	"foliant/chain"
	"foliant/docs"
	"foliant/give"
	"foliant/head"
	"foliant/load"
	"foliant/value"
)

// A plan tells what an update writes.
type plan struct {
	written []api.Item
	// freed has the entries of the numbers that are to be free.
	freed []api.Slot
	// prev is where the newest section of the file begins, and stream whether it is a stream.
	prev   int
	stream bool
	// size is the number after the greatest one in use.
	size int
}

// planOf returns the plan of an update that makes the document was of the file old the document d, or gives up.
func planOf(old string, was, d api.Doc) plan {
	sections := give.Value(load.Sections(old))
	if len(sections) == api.MaxChain {
		give.Up(api.ErrMany)
	}
	slots := chain.Merge(sections)
	c := changeOf(old, slots, was, d)
	p := plan{prev: give.Value(head.Start(old)), stream: sections[0].Own > 0}
	for _, i := range d.Items {
		if c.writes(i.Num) {
			p.written = append(p.written, i)
			p.size = max(p.size, i.Num+1)
		}
	}
	for _, slot := range slots {
		if c.frees(slot.Num) {
			p.freed = append(p.freed, freed(slot))
		}
		p.size = max(p.size, slot.Num+1)
	}
	if o, _ := value.Get(sections[0].Trailer, "Size"); o.Kind == api.KInt {
		p.size = max(p.size, int(o.N))
	}
	if p.stream && p.size > api.MaxNum {
		give.Up(api.ErrFull)
	}
	return p
}

// freed returns the entry that frees the number of an entry.
func freed(slot api.Slot) api.Slot {
	gen := 0
	if slot.Kind == api.SlotPlain {
		gen = slot.B
	}
	return api.Slot{Num: slot.Num, B: min(gen+1, api.MaxGen)}
}

// A change knows of each number what it is in the file and in the document that the file is to have.
type change struct {
	// slots has the entries of the file.
	slots map[int]api.Slot
	// dependent has the streams of the file whose length another object tells, so that they change with it.
	dependent map[int]bool
	// has tells the items of the new document, differs those of them that the file's document has not so, and dropped the items of the latter that are gone.
	has, differs, dropped map[int]bool
}

// changeOf returns the change of the file old with its entries from the document was to the document d.
func changeOf(old string, slots []api.Slot, was, d api.Doc) change {
	c := change{slots: map[int]api.Slot{}, dependent: map[int]bool{}, has: map[int]bool{}, differs: map[int]bool{}, dropped: map[int]bool{}}
	for _, slot := range slots {
		c.slots[slot.Num] = slot
		c.dependent[slot.Num] = dependent(old, slot)
	}
	for _, i := range d.Items {
		c.has[i.Num] = true
	}
	list, nums := docs.Diff(was, d)
	for _, i := range list {
		c.differs[i.Num] = true
	}
	for _, num := range nums {
		c.dropped[num] = true
	}
	return c
}

// dependent reports whether an entry is one of a stream whose length another object tells.
func dependent(s string, slot api.Slot) bool {
	if slot.Kind != api.SlotPlain {
		return false
	}
	o, e := body.Length(s, slot.A)
	return e == api.OK && o.Kind == api.KRef
}

// writes reports whether an update writes the item of the new document with the number num. One that stays the same is written too if the object that tells its length, or the stream that holds it, may not.
func (c change) writes(num int) bool {
	slot := c.slots[num]
	inStream := slot.Kind == api.SlotPacked
	return c.differs[num] || c.dependent[num] || inStream && (c.has[slot.A] || c.dependent[slot.A])
}

// frees reports whether an update frees the number num of an entry.
func (c change) frees(num int) bool {
	return c.dropped[num] || !c.has[num] && (c.dependent[num] || c.slots[num].Kind == api.SlotPacked)
}
