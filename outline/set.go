package outline

import (
	"foliant/api"
	"foliant/catalog"
	"foliant/dest"
	"foliant/docs"
	"foliant/give"
	"foliant/value"
)

// Set returns d with an outline of the marks of l.
func Set(d api.Doc, l []api.Mark) (api.Doc, api.Errno) {
	return give.Caught(func() api.Doc {
		give.UpOn(docs.Check(d))
		b := dest.Of(d)
		check(b, l)
		if len(l) == 0 {
			return give.Value(catalog.SetRoot(d, outlinesKey, value.Null()))
		}
		first := give.Value(docs.Free(d))
		// The items refer to one another, so that all of them must have numbers before the first one is made.
		if first+Count(l) > api.MaxNum {
			give.Up(api.ErrFull)
		}
		more := give.Value(docs.Extend(d, dicts(b, l, first)...))
		return give.Value(catalog.SetRoot(more, outlinesKey, value.Ref(first, 0)))
	})
}

// dicts returns the dictionaries of an outline under the numbers from first on: its own, and those of the marks in preorder.
func dicts(b *dest.Book, l []api.Mark, first int) []api.Object {
	x := &maker{book: b, first: first}
	num := x.reserve()
	from, to := x.add(l, num)
	x.fill(num,
		value.Name(countKey), value.Int(visible(l)),
		value.Name(firstKey), from,
		value.Name("Last"), to,
		value.Name("Type"), value.Name(outlinesKey))
	return x.objs
}

// maker makes dictionaries under the numbers from first on.
type maker struct {
	book  *dest.Book
	first int
	objs  []api.Object
}

// next returns the number that is reserved next.
func (x *maker) next() int { return x.first + len(x.objs) }

// reserve reserves a number, whose dictionary is still to be filled.
func (x *maker) reserve() int {
	x.objs = append(x.objs, value.Null())
	return x.next() - 1
}

// fill makes the dictionary with a reserved number.
func (x *maker) fill(num int, pairs ...api.Object) {
	x.objs[num-x.first] = give.Value(value.Dict(pairs...))
}

// add makes the dictionaries of the marks of l, whose parent has a number, and of all below them. It returns references to the first and the last mark of l, each null if there is none.
func (x *maker) add(l []api.Mark, parent int) (first, last api.Object) {
	if len(l) > 0 {
		first = value.Ref(x.next(), 0)
	}
	for i, m := range l {
		num := x.reserve()
		from, to := x.add(m.Kids, num)
		next := value.Null()
		if i < len(l)-1 {
			next = value.Ref(x.next(), 0)
		}
		x.fill(num,
			value.Name(countKey), count(m),
			value.Name(destKey), x.dest(m),
			value.Name(firstKey), from,
			value.Name("Last"), to,
			value.Name(nextKey), next,
			value.Name("Parent"), value.Ref(parent, 0),
			value.Name("Prev"), last,
			value.Name(titleKey), value.String(m.Title))
		last = value.Ref(num, 0)
	}
	return first, last
}

// dest returns the array of a mark's destination, or null if it has none.
func (x *maker) dest(m api.Mark) api.Object {
	if !m.Has {
		return value.Null()
	}
	return give.Value(x.book.Make(m.To))
}

// count returns what a mark tells of the marks below it, or null if there are none.
func count(m api.Mark) api.Object {
	n := visible(m.Kids)
	switch {
	case n == 0:
		return value.Null()
	case m.Open:
		return value.Int(n)
	}
	return value.Int(-n)
}

// visible returns how many of the marks of l and below them are displayed.
func visible(l []api.Mark) int64 {
	n := int64(len(l))
	for _, m := range l {
		if m.Open {
			n += visible(m.Kids)
		}
	}
	return n
}
