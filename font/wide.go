package font

import (
	"slices"

	"foliant/api"
)

// wide reads a font whose codes have two bytes, but for its name and its maps.
func (r reader) wide(o api.Object) api.Font {
	encoding := r.get(o, encodingKey)
	wrong(encoding.Kind != api.KName || encoding.S != wideEncoding)
	kids := r.list(r.get(o, descendantsKey))
	wrong(len(kids) != 1 || kids[0].Kind != api.KDict)
	f := api.Font{Wide: true, Missing: r.wholeAt(kids[0], wideMissingKey, maxWidth, wideMissing)}
	f.First, f.Widths = spread(r.spans(r.listAt(kids[0], wideWidthsKey)), f.Missing)
	return f
}

// span is an entry of the widths of a wide font, for the codes from first up to end, which is not included. Its widths are repeated as often as need be.
type span struct {
	first, end int
	widths     []int64
}

// spans reads the entries of the widths of a wide font that mention a code.
func (r reader) spans(l []api.Object) []span {
	var list []span
	for len(l) > 0 {
		s, n := r.span(l)
		if s.first < s.end {
			list = append(list, s)
		}
		l = l[n:]
	}
	return list
}

// span reads an entry at the beginning of a list, and returns how many elements it has.
func (r reader) span(l []api.Object) (span, int) {
	first := int(whole(l[0], wideCodes-1))
	wrong(len(l) < 2)
	if l[1].Kind == api.KArray {
		list := widths(r.list(l[1]))
		return span{first, first + len(list), list}, 2
	}
	last := int(whole(l[1], wideCodes-1))
	wrong(last < first || len(l) < 3)
	return span{first, last + 1, widths(l[2:3])}, 3
}

// spread returns the first code that spans mention, and the widths of all codes from there to the last one. A later span counts before an earlier one, and a width that is missing has a number of its own.
func spread(l []span, missing int64) (int, []int64) {
	if len(l) == 0 {
		return 0, nil
	}
	first, end := wideCodes, 0
	for _, s := range l {
		first, end = min(first, s.first), max(end, s.end)
	}
	// Told before the widths are laid out, which would take long for many spans.
	wrong(end-first > api.MaxMap)
	list := slices.Repeat([]int64{missing}, end-first)
	for _, s := range l {
		for code := s.first; code < s.end; code++ {
			list[code-first] = s.widths[(code-s.first)%len(s.widths)]
		}
	}
	return first, list
}
