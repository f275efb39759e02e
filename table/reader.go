package table

import (
	"cmp"
	"iter"
	"slices"

	"foliant/api"
	"foliant/give"
	"foliant/lex"
	"foliant/octet"
	"foliant/parse"
	"foliant/value"
)

const first = "xref"

// A reader reads a table from offset at on. Its methods give up with ErrTable, the one error that a table has.
type reader struct {
	s  string
	at int
}

// section reads a table with its trailer.
func (r *reader) section() api.Section {
	at := r.at
	if !octet.Begins(r.s, first, at) || !isWord(r.next(), first) {
		give.Up(api.ErrTable)
	}
	slots := r.slots()
	trailer := r.trailer()
	return api.Section{At: at, Slots: slots, Trailer: trailer, Prev: offset(trailer, "Prev"), Hybrid: offset(trailer, "XRefStm")}
}

// slots reads the entries of all subsections, and the word trailer.
func (r *reader) slots() []api.Slot {
	var list []api.Slot
	seen := map[int]bool{}
	for num := range r.numbers() {
		if seen[num] {
			give.Up(api.ErrTable)
		}
		seen[num] = true
		list = append(list, r.slot(num))
	}
	slices.SortFunc(list, func(a, b api.Slot) int { return cmp.Compare(a.Num, b.Num) })
	return list
}

// numbers yields the object number of each entry when the entry is next, and reads what stands between the entries, up to the word trailer.
func (r *reader) numbers() iter.Seq[int] {
	return func(yield func(int) bool) {
		for t := r.next(); !isWord(t, "trailer"); t = r.next() {
			from := number(t, api.MaxNum)
			for i := range number(r.next(), api.MaxNum+1-from) {
				if !yield(from + i) {
					return
				}
			}
		}
	}
}

// slot reads the entry of object number num.
func (r *reader) slot(num int) api.Slot {
	a := number(r.next(), api.MaxInt)
	b := number(r.next(), api.MaxGen)
	kind := api.SlotPlain
	switch t := r.next(); {
	case isWord(t, "n"):
	case isWord(t, "f"):
		kind = api.SlotFree
	default:
		give.Up(api.ErrTable)
	}
	return api.Slot{Num: num, Kind: kind, A: a, B: b}
}

// trailer reads the dictionary after the word trailer.
func (r *reader) trailer() api.Object {
	o, to, e := parse.Object(r.s, r.at)
	if e != api.OK || o.Kind != api.KDict {
		give.Up(api.ErrTable)
	}
	r.at = to
	return o
}

// next reads a token.
func (r *reader) next() api.Token {
	t, e := lex.Next(r.s, r.at)
	if e != api.OK {
		give.Up(api.ErrTable)
	}
	r.at = t.To
	return t
}

// isWord reports whether t is the word s.
func isWord(t api.Token, s string) bool { return t.Kind == api.TWord && t.S == s }

// number returns the integer from 0 to most that t is.
func number(t api.Token, most int) int {
	if t.Kind != api.TInt || t.N < 0 || t.N > int64(most) {
		give.Up(api.ErrTable)
	}
	return int(t.N)
}

// offset returns the offset that a key of the trailer tells, or -1 if there is none.
func offset(trailer api.Object, key string) int {
	o, ok := value.Get(trailer, key)
	if !ok {
		return -1
	}
	if o.Kind != api.KInt || o.N < 0 {
		give.Up(api.ErrTable)
	}
	return int(o.N)
}
