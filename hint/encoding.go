package hint

import (
	"foliant/api"
	"foliant/bit"
	"foliant/give"
)

// encoded returns the encoding of a valid hint list.
func encoded(l []api.Hint) string {
	w := bit.New()
	put := func(v, n int) { give.UpOn(w.High(v, n)) }
	putLong := func(v int) {
		put(v>>halfBits, halfBits)
		put(v&(1<<halfBits-1), halfBits)
	}
	least, widths := spread(l)
	putLong(len(l))
	for _, v := range least {
		putLong(v)
	}
	for _, n := range widths {
		put(n, halfBits)
	}
	for c := range columns {
		for _, h := range l {
			put(rowOf(h)[c]-least[c], widths[c])
		}
		w.Align()
	}
	return w.Text()
}

// spread returns the minima of the columns, and the widths in which the differences from them are written.
func spread(l []api.Hint) (least, widths row) {
	least = rowOf(l[0])
	most := least
	for _, h := range l {
		for c, v := range rowOf(h) {
			least[c] = min(least[c], v)
			most[c] = max(most[c], v)
		}
	}
	for c := range columns {
		widths[c] = Need(most[c] - least[c])
	}
	return least, widths
}

// decoded returns the hints that s begins with, valid or not, or gives up.
func decoded(s string) []api.Hint {
	r := bit.From(s)
	take := func(n int) int { return give.Value(r.High(n)) }
	takeLong := func() int {
		high := take(halfBits)
		if high > api.MaxFile>>halfBits {
			give.Up(api.ErrHint)
		}
		return high<<halfBits | take(halfBits)
	}
	pages := takeLong()
	if pages > api.MaxPages {
		give.Up(api.ErrHint)
	}
	var least, widths row
	for c := range columns {
		least[c] = takeLong()
	}
	for c := range columns {
		widths[c] = take(halfBits)
	}
	rows := make([]row, pages)
	for c := range columns {
		for i := range rows {
			rows[i][c] = least[c] + take(widths[c])
		}
		r.Align()
	}
	l := make([]api.Hint, pages)
	for i, r := range rows {
		l[i] = r.hint()
	}
	return l
}
