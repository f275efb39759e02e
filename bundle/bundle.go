// Package bundle opens object streams. Package packed reads them so, and package resolve too, which would otherwise decode a stream anew for each of its objects.
package bundle

import (
	"slices"

	"foliant/api"
	"foliant/filter"
	"foliant/give"
	"foliant/lex"
	"foliant/parse"
	"foliant/value"
)

// Kind is the type of object streams.
const Kind = "ObjStm"

// A Bundle is an object stream whose data is decoded and whose pairs are read.
type Bundle struct {
	count int
	data  string
	pairs []pair
	// err is what is wrong with the data or the pairs, so that there are none.
	err api.Errno
}

// A pair is the number of an object and its offset in the data.
type pair struct {
	num, at int
}

// Count returns the number of objects in an object stream.
func Count(o api.Object) (int, api.Errno) {
	if o.Kind != api.KStream {
		return 0, api.ErrKind
	}
	t, _ := value.Get(o, "Type")
	n, _ := value.Get(o, "N")
	first, _ := value.Get(o, "First")
	if t.Kind != api.KName || t.S != Kind || !natural(n) || n.N > api.MaxNum || !natural(first) {
		return 0, api.ErrStream
	}
	return int(n.N), api.OK
}

// natural reports whether o is an integer that is not negative.
func natural(o api.Object) bool { return o.Kind == api.KInt && o.N >= 0 }

// Open opens an object stream. It has the error of Count alone: Item and Items tell what else is wrong.
func Open(o api.Object) (Bundle, api.Errno) {
	count, e := Count(o)
	if e != api.OK {
		return Bundle{}, e
	}
	b, e := give.Caught(func() Bundle { return opened(o, count) })
	b.count, b.err = count, e
	return b, api.OK
}

// opened returns an object stream of so many objects with its data and its pairs, or gives up.
func opened(o api.Object, count int) Bundle {
	b := Bundle{data: give.Value(filter.Decode(o))}
	first, _ := value.Get(o, "First")
	if first.N > int64(len(b.data)) {
		give.Up(api.ErrStream)
	}
	from := int(first.N)
	tokens, f := lex.Upto(b.data[:from], 0, 2*count)
	if f.Err != api.OK || len(tokens) < 2*count {
		give.Up(api.ErrStream)
	}
	for two := range slices.Chunk(tokens, 2) {
		num := number(two[0], 1, api.MaxNum)
		at := from + number(two[1], 0, len(b.data)-from)
		b.pairs = append(b.pairs, pair{num, at})
	}
	return b
}

// number returns the integer from least to most that t is.
func number(t api.Token, least, most int) int {
	if t.Kind != api.TInt || t.N < int64(least) || t.N > int64(most) {
		give.Up(api.ErrStream)
	}
	return int(t.N)
}

// Item returns the item at the index place.
func (b Bundle) Item(place int) (api.Item, api.Errno) {
	if place < 0 || place >= b.count {
		return api.Item{}, api.ErrRange
	}
	if b.err != api.OK {
		return api.Item{}, b.err
	}
	return b.item(b.pairs[place])
}

// Items returns all items.
func (b Bundle) Items() ([]api.Item, api.Errno) {
	if b.err != api.OK {
		return nil, b.err
	}
	var list []api.Item
	for _, p := range b.pairs {
		i, e := b.item(p)
		if e != api.OK {
			return nil, e
		}
		list = append(list, i)
	}
	return list, api.OK
}

// item parses the object of a pair.
func (b Bundle) item(p pair) (api.Item, api.Errno) {
	o, _, e := parse.Object(b.data, p.at)
	if e != api.OK {
		return api.Item{}, e
	}
	if o.Kind == api.KRef {
		return api.Item{}, api.ErrKind
	}
	return api.Item{Num: p.num, Obj: o}, api.OK
}
