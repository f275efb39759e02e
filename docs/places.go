package docs

import (
	"iter"

	"foliant/api"
	"foliant/give"
	"foliant/value"
)

// places has the item of each number, or nil. Beside a list of items it finds, drops and puts one in at once, so that many changes take no longer than one.
type places [api.MaxNum + 1]*api.Item

// placesOf returns the places of the items of a valid document, in whose memory they stay.
func placesOf(d api.Doc) *places {
	p := new(places)
	for i := range d.Items {
		p[d.Items[i].Num] = &d.Items[i]
	}
	return p
}

// drop removes the item with the number num.
func (p *places) drop(num int) {
	if num < 1 || num > api.MaxNum || p[num] == nil {
		give.Up(api.ErrNone)
	}
	p[num] = nil
}

// put puts in the item i, in place of the one that has its number.
func (p *places) put(i api.Item) {
	give.UpOn(checkItem(i, 0))
	p[i.Num] = &i
}

// numbers yields the numbers of the items.
func (p *places) numbers() iter.Seq[int] {
	return func(yield func(int) bool) {
		for num, i := range p {
			if i != nil && !yield(num) {
				return
			}
		}
	}
}

// doc returns the document of the items with a trailer, which shares no memory with them, or gives up if the trailer does not lead to a catalog.
func (p *places) doc(trailer api.Object) api.Doc {
	d := api.Doc{Trailer: value.Clone(trailer)}
	for num := range p.numbers() {
		d.Items = append(d.Items, cloneItem(*p[num]))
	}
	give.UpOn(checkTrailer(d))
	return d
}
