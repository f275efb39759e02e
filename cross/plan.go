package cross

import (
	"iter"

	"foliant/api"
	"foliant/give"
	"foliant/value"
)

// A plan tells how the rows of a cross-reference stream are read: the widths of their fields, and the object numbers in runs of a first one and a count.
type plan struct {
	widths [3]int
	runs   [][2]int
	prev   int
}

// planOf returns the plan that the keys of a cross-reference stream tell, or gives up with ErrStream.
func planOf(o api.Object) plan {
	t, _ := value.Get(o, "Type")
	demand(o.Kind == api.KStream && value.Same(t, value.Name(kind)))
	size, _ := value.Get(o, "Size")
	p := plan{runs: [][2]int{{0, integer(size, api.MaxNum+1)}}, prev: -1}
	w, _ := value.Get(o, "W")
	demand(w.Kind == api.KArray && len(w.Kids) == len(p.widths))
	for i, kid := range w.Kids {
		p.widths[i] = integer(kid, widest)
	}
	if index, ok := value.Get(o, "Index"); ok {
		p.runs = runsOf(index)
	}
	if prev, ok := value.Get(o, "Prev"); ok {
		p.prev = integer(prev, api.MaxInt)
	}
	return p
}

// runsOf returns the runs that the value of Index tells.
func runsOf(o api.Object) [][2]int {
	demand(o.Kind == api.KArray && len(o.Kids)%2 == 0)
	var list [][2]int
	end := 0
	for i := 0; i < len(o.Kids); i += 2 {
		from := integer(o.Kids[i], api.MaxNum+1)
		demand(from >= end)
		count := integer(o.Kids[i+1], api.MaxNum+1-from)
		list = append(list, [2]int{from, count})
		end = from + count
	}
	return list
}

// integer returns the integer from 0 to most that o is.
func integer(o api.Object, most int) int {
	demand(o.Kind == api.KInt && o.N >= 0 && o.N <= int64(most))
	return int(o.N)
}

// demand gives up with ErrStream unless ok holds.
func demand(ok bool) {
	if !ok {
		give.Up(api.ErrStream)
	}
}

// numbers yields the object number of each row.
func (p plan) numbers() iter.Seq[int] {
	return func(yield func(int) bool) {
		for _, run := range p.runs {
			for i := range run[1] {
				if !yield(run[0] + i) {
					return
				}
			}
		}
	}
}
