package linear

import (
	"iter"
	"slices"

	"foliant/api"
	"foliant/docs"
	"foliant/give"
	"foliant/value"
	"foliant/web"
)

// A plan tells in which order a linearized file has the items of its document.
type plan struct {
	// first is the number of the first page.
	first int
	// groups has the numbers of the items that each page needs and none before it does, and then those of all others.
	groups [][]int
}

// planOf returns the plan for d, or gives up if d or its pages are not as they must be.
func planOf(d api.Doc) plan {
	give.UpOn(docs.Check(d))
	n := needsOf(d)
	var p plan
	var taken numbers
	for page := range pages(n.web, d.Trailer) {
		if len(p.groups) == api.MaxPages {
			give.Up(api.ErrPage)
		}
		needed := n.of(page)
		if len(p.groups) == 0 {
			p.first = page.Num
			root, _ := value.Get(d.Trailer, "Root")
			needed.add(int(root.N))
		}
		p.groups = append(p.groups, slices.Collect(needed.without(&taken)))
		taken.addAll(&needed)
	}
	if len(p.groups) == 0 {
		give.Up(api.ErrPage)
	}
	var rest []int
	for _, i := range d.Items {
		if !taken.has(i.Num) {
			rest = append(rest, i.Num)
		}
	}
	p.groups = append(p.groups, rest)
	return p
}

// pages yields the items of the pages, in their order, and gives up if the page tree is not as it must be.
func pages(w web.Web, trailer api.Object) iter.Seq[api.Item] {
	return func(yield func(api.Item) bool) {
		met := map[int]bool{}
		var visit func(ref api.Object, depth int) bool
		visit = func(ref api.Object, depth int) bool {
			i, ok := w.Dict(ref)
			if !ok || met[i.Num] || depth > api.MaxDepth {
				give.Up(api.ErrPage)
			}
			met[i.Num] = true
			kids := w.Path(i.Obj, "Kids")
			if kids.Kind != api.KArray {
				return yield(i)
			}
			for _, kid := range kids.Kids {
				if !visit(kid, depth+1) {
					return false
				}
			}
			return true
		}
		root, _ := value.Get(w.Path(trailer, "Root"), "Pages")
		visit(root, 1)
	}
}
