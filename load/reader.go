package load

import (
	"foliant/api"
	"foliant/chain"
	"foliant/docs"
	"foliant/give"
	"foliant/head"
	"foliant/resolve"
)

// A reader reads the file s strictly, and gives up with the first error, which stands at the offset at.
type reader struct {
	s        string
	at       int
	sections []api.Section
}

// long reports whether s is longer than a file may be.
func long(s string) bool { return len(s) > api.MaxFile }

// chain reads the sections of the file.
func (r *reader) chain() []api.Section {
	if long(r.s) {
		give.Up(api.ErrLong)
	}
	_, _, e := head.Version(r.s)
	give.UpOn(e)
	r.at = give.Value(head.Start(r.s))
	r.sections = give.Value(chain.Read(r.s, r.at))
	return r.sections
}

// document reads the document of the file.
func (r *reader) document() api.Doc {
	sections := r.chain()
	slots := chain.Merge(sections)
	items, failed := resolve.All(r.s, slots)
	if len(failed) > 0 {
		r.fail(slots, failed[0])
	}
	d := api.Doc{Items: items, Trailer: chain.Trailer(sections)}
	if docs.Check(d) != api.OK {
		give.Up(api.ErrTrail)
	}
	return d
}

// fail gives up with what is wrong with the object that has the number num.
func (r *reader) fail(slots []api.Slot, num int) {
	slot, _ := chain.Find(slots, num)
	r.at = 0
	if slot.Kind == api.SlotPlain {
		r.at = slot.A
	}
	_, e := resolve.Item(r.s, slots, num)
	give.Up(e)
}
