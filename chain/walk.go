package chain

import (
	"foliant/api"
	"foliant/give"
)

// A walk visits the sections of a chain of s, no offset twice.
type walk struct {
	s       string
	visited map[int]bool
	list    []api.Section
}

// visit reads the section at an offset, or gives up.
func (w *walk) visit(at int) api.Section {
	if w.visited[at] {
		give.Up(api.ErrLoop)
	}
	if len(w.list) == api.MaxChain {
		give.Up(api.ErrMany)
	}
	x := give.Value(Section(w.s, at))
	w.visited[at] = true
	w.list = append(w.list, x)
	return x
}

// chain returns the sections of the chain from offset at, or gives up.
func (w *walk) chain(at int) []api.Section {
	for {
		x := w.visit(at)
		if x.Hybrid >= 0 && isTable(w.visit(x.Hybrid)) {
			give.Up(api.ErrStream)
		}
		if x.Prev < 0 {
			return w.list
		}
		at = x.Prev
	}
}

// isTable reports whether a section is a table, which no object holds.
func isTable(x api.Section) bool { return x.Own == 0 }
