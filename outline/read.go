package outline

import (
	"foliant/api"
	"foliant/dest"
	"foliant/docs"
	"foliant/give"
	"foliant/web"
)

// The keys by which an outline is read.
const (
	outlinesKey = "Outlines"
	firstKey    = "First"
	nextKey     = "Next"
	titleKey    = "Title"
	destKey     = "Dest"
	countKey    = "Count"
)

// Read returns the marks of d.
func Read(d api.Doc) ([]api.Mark, api.Errno) {
	return give.Caught(func() []api.Mark {
		give.UpOn(docs.Check(d))
		r := reader{web.Of(d), dest.Of(d), map[int]bool{}}
		o := r.web.Path(d.Trailer, "Root", outlinesKey)
		switch o.Kind {
		case api.KNull:
			return nil
		case api.KDict:
			return r.kids(o, 0)
		}
		give.Up(api.ErrKind)
		return nil
	})
}

// reader reads the outline of a document.
type reader struct {
	web  web.Web
	book *dest.Book
	// met has the numbers of the items that were visited as marks.
	met map[int]bool
}

// kids returns the marks below a dictionary, which lie inside so many others.
func (r reader) kids(above api.Object, inside int) []api.Mark {
	var l []api.Mark
	o := above
	for key := firstKey; ; key = nextKey {
		ref, ok := web.Get(o, key)
		if !ok {
			return l
		}
		o = r.meet(ref, inside)
		m := r.mark(o)
		m.Kids = r.kids(o, inside+1)
		count := r.web.Path(o, countKey)
		m.Open = count.Kind == api.KInt && count.N > 0 && len(m.Kids) > 0
		l = append(l, m)
	}
}

// meet returns the dictionary to which ref must refer, as that of a mark that lies inside so many others.
func (r reader) meet(ref api.Object, inside int) api.Object {
	i, ok := r.web.Dict(ref)
	if !ok {
		give.Up(api.ErrKind)
	}
	if r.met[i.Num] {
		give.Up(api.ErrLoop)
	}
	if len(r.met) >= api.MaxTree {
		give.Up(api.ErrMany)
	}
	if inside >= api.MaxDepth {
		give.Up(api.ErrDeep)
	}
	r.met[i.Num] = true
	return i.Obj
}

// mark returns the mark of a dictionary, without its kids.
func (r reader) mark(o api.Object) api.Mark {
	title := r.web.Path(o, titleKey)
	if title.Kind != api.KString {
		give.Up(api.ErrKind)
	}
	if len(title.S) > api.MaxText {
		give.Up(api.ErrLong)
	}
	m := api.Mark{Title: title.S}
	if to, ok := web.Get(o, destKey); ok {
		x, e := r.book.Read(to)
		m.To, m.Has = x, e == api.OK
	}
	return m
}
