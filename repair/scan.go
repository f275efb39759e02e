package repair

import (
	"cmp"
	"iter"
	"maps"
	"slices"

	"foliant/api"
	"foliant/body"
	"foliant/octet"
	"foliant/parse"
)

// headers yields an entry for each object header in s, by increasing offset.
func headers(s string) iter.Seq[api.Slot] {
	return func(yield func(api.Slot) bool) {
		next := skips(s)
		for at := range len(s) {
			if !begins(s, at) || !octet.Begins(s, "obj", third(s, next, at)) {
				continue
			}
			num, gen, _, e := body.Head(s, at)
			if e == api.OK && !yield(api.Slot{Num: num, Kind: api.SlotPlain, A: at, B: gen}) {
				return
			}
		}
	}
}

// begins reports whether an object header can begin at offset at.
func begins(s string, at int) bool {
	return s[at] >= '0' && s[at] <= '9' && (at == 0 || octet.White(s[at-1]))
}

// third returns the offset of the third of the tokens from offset at on, if the first two consist of regular bytes. It spares body.Head the others, which may be as long as the rest of s.
func third(s string, next []int, at int) int {
	for range 2 {
		for at < len(s) && octet.Regular(s[at]) {
			at++
		}
		at = next[at]
	}
	return at
}

// skips returns what octet.Skip does for each offset of s. Each is found by way of a later one, so that a long comment is passed only once.
func skips(s string) []int {
	next := make([]int, len(s)+1)
	next[len(s)] = len(s)
	line := len(s)
	for i := range len(s) {
		at := len(s) - 1 - i
		switch c := s[at]; {
		case c == '\r' || c == '\n':
			line = octet.Line(s, at)
			next[at] = next[line]
		case c == '%':
			next[at] = next[line]
		case octet.White(c):
			next[at] = next[at+1]
		default:
			next[at] = at
		}
	}
	return next
}

// trailers yields the dictionaries of s that may be its trailer, in the order in which they are tried.
func trailers(s string) iter.Seq[api.Object] {
	return func(yield func(api.Object) bool) {
		for o := range tableTrailers(s) {
			if !yield(o) {
				return
			}
		}
		for o := range streamTrailers(s) {
			if !yield(o) {
				return
			}
		}
	}
}

// tableTrailers yields the dictionaries that follow the word trailer in s, from the last one on.
func tableTrailers(s string) iter.Seq[api.Object] {
	const word = "trailer"
	return func(yield func(api.Object) bool) {
		next := skips(s)
		for at := octet.Last(s, word); at >= 0; at = octet.Last(s[:at], word) {
			dict := next[at+len(word)]
			if !octet.Begins(s, "<<", dict) {
				continue
			}
			o, _, e := parse.Object(s, dict)
			if e == api.OK && !yield(o) {
				return
			}
		}
	}
}

// streamTrailers yields the entries of the cross-reference streams in s, from the last one on.
func streamTrailers(s string) iter.Seq[api.Object] {
	return func(yield func(api.Object) bool) {
		l := Scan(s)
		slices.SortFunc(l, func(a, b api.Slot) int { return cmp.Compare(b.A, a.A) })
		for _, slot := range l {
			i, _, e := body.Read(s, slot.A, -1)
			if e != api.OK || i.Obj.Kind != api.KStream || !isTyped(i.Obj, "XRef") {
				continue
			}
			if !yield(api.Object{Kind: api.KDict, Keys: i.Obj.Keys, Kids: i.Obj.Kids}) {
				return
			}
		}
	}
}

// byNumber returns entries in increasing order of their numbers.
func byNumber(m map[int]api.Slot) []api.Slot {
	var list []api.Slot
	for _, num := range slices.Sorted(maps.Keys(m)) {
		list = append(list, m[num])
	}
	return list
}
