package resolve

import (
	"slices"

	"foliant/api"
	"foliant/body"
	"foliant/bundle"
	"foliant/give"
	"foliant/octet"
)

// A fetcher fetches objects from the file s.
type fetcher struct {
	s string
	// find returns the entry of a number, as chain.Find does.
	find func(num int) (api.Slot, bool)
	// pending has the numbers that are being fetched.
	pending map[int]bool
	// fetched has what became of the others. It stays the same whichever numbers are being fetched, since an object needs one other at most: where one needs itself in the end, all those on the way do, and have the same error.
	fetched map[int]result
	// read has what stands at each offset, which does not depend on those either: however many entries lead to an object, it is read once.
	read map[int]result
	// bundles has the object streams that are open, by their numbers.
	bundles map[int]bundle.Bundle
}

// A result is an item or an error.
type result struct {
	item api.Item
	err  api.Errno
}

func newFetcher(s string, find func(num int) (api.Slot, bool)) *fetcher {
	return &fetcher{s: s, find: find, pending: map[int]bool{}, fetched: map[int]result{}, read: map[int]result{}, bundles: map[int]bundle.Bundle{}}
}

// fetch returns the object with the number num.
func (f *fetcher) fetch(num int) (api.Item, api.Errno) {
	r, ok := f.fetched[num]
	if !ok {
		r.item, r.err = give.Caught(func() api.Item { return f.item(num) })
		f.fetched[num] = r
	}
	return r.item, r.err
}

// item reads the object with the number num, or gives up.
func (f *fetcher) item(num int) api.Item {
	slot, ok := f.find(num)
	if !ok || slot.Kind != api.SlotPlain && slot.Kind != api.SlotPacked {
		give.Up(api.ErrNone)
	}
	if f.pending[num] {
		give.Up(api.ErrLoop)
	}
	f.pending[num] = true
	defer func() { delete(f.pending, num) }()
	if slot.Kind == api.SlotPlain {
		return f.plain(slot)
	}
	return f.member(slot)
}

// plain reads the object of a plain entry.
func (f *fetcher) plain(slot api.Slot) api.Item {
	at := octet.Skip(f.s, slot.A)
	r, ok := f.read[at]
	if !ok {
		r.item, r.err = give.Caught(func() api.Item { return f.stands(at) })
		f.read[at] = r
	}
	i := give.Value(r.item, r.err)
	if i.Num != slot.Num || i.Gen != slot.B {
		give.Up(api.ErrPlace)
	}
	return i
}

// stands reads the object that stands at an offset, or gives up.
func (f *fetcher) stands(at int) api.Item {
	length := -1
	if o, e := body.Length(f.s, at); e == api.OK && o.Kind == api.KRef {
		length = f.length(int(o.N))
	}
	i, _, e := body.Read(f.s, at, length)
	give.UpOn(e)
	return i
}

// length returns the length of a stream that the object with the number num tells.
func (f *fetcher) length(num int) int {
	o := give.Value(f.fetch(num)).Obj
	if o.Kind != api.KInt || o.N < 0 {
		give.Up(api.ErrKind)
	}
	return int(o.N)
}

// member reads the object of a packed entry.
func (f *fetcher) member(slot api.Slot) api.Item {
	if stream, ok := f.find(slot.A); !ok || stream.Kind != api.SlotPlain {
		give.Up(api.ErrStream)
	}
	i := give.Value(f.open(slot.A).Item(slot.B))
	if i.Num != slot.Num {
		give.Up(api.ErrPlace)
	}
	return i
}

// open opens the object stream with the number num, unless it is open already.
func (f *fetcher) open(num int) bundle.Bundle {
	b, ok := f.bundles[num]
	if !ok {
		b = give.Value(bundle.Open(give.Value(f.fetch(num)).Obj))
		f.bundles[num] = b
	}
	return b
}

// finder returns a function that finds entries as chain.Find does, but looks through the list only once for many numbers.
func finder(l []api.Slot) func(num int) (api.Slot, bool) {
	first := map[int]api.Slot{}
	for _, slot := range slices.Backward(l) {
		first[slot.Num] = slot
	}
	return func(num int) (api.Slot, bool) {
		slot, ok := first[num]
		return slot, ok
	}
}
