package annot

import (
	"iter"

	"foliant/api"
	"foliant/dest"
	"foliant/docs"
	"foliant/give"
	"foliant/pages"
	"foliant/value"
	"foliant/web"
)

// The keys of a page and of its annotations.
const (
	annotsKey = "Annots"
	kindKey   = "Subtype"
	boxKey    = "Rect"
	textKey   = "Contents"
	destKey   = "Dest"
)

// sheet is a page of a valid document with what its array of annotations has, in the document's memory.
type sheet struct {
	web  web.Web
	book *dest.Book
	page api.Item
	list []api.Object
}

// sheetOf returns the page of d with the index page, or gives up.
func sheetOf(d api.Doc, page int) sheet {
	p := give.Value(pages.Get(d, page))
	w := web.Of(d)
	i, _ := w.Num(p.Num)
	o := w.Path(i.Obj, annotsKey)
	if o.Kind != api.KNull && o.Kind != api.KArray {
		give.Up(api.ErrForm)
	}
	return sheet{w, dest.Of(d), i, o.Kids}
}

// annots yields the annotations, and gives up with the first error of one.
func (s sheet) annots() iter.Seq[api.Annot] {
	return func(yield func(api.Annot) bool) {
		for _, o := range s.list {
			if !yield(s.annot(s.web.Follow(o))) {
				return
			}
		}
	}
}

// annot returns the annotation of a dictionary.
func (s sheet) annot(o api.Object) api.Annot {
	kind, text := s.web.Path(o, kindKey), s.web.Path(o, textKey)
	rect, _ := web.Get(o, boxKey)
	box, e := pages.Box(s.web, rect)
	if o.Kind != api.KDict || kind.Kind != api.KName || e != api.OK || text.Kind != api.KNull && text.Kind != api.KString {
		give.Up(api.ErrForm)
	}
	a := api.Annot{Kind: kind.S, Box: box, Text: text.S}
	if to, ok := web.Get(o, destKey); ok {
		a.To, a.Has = give.Value(s.book.Read(to)), true
	}
	return a
}

// dict returns the dictionary of an annotation.
func (s sheet) dict(a api.Annot) api.Object {
	b := a.Box
	text, to := value.Null(), value.Null()
	if a.Text != "" {
		text = value.String(a.Text)
	}
	if a.Has {
		to = give.Value(s.book.Make(a.To))
	}
	return give.Value(value.Dict(
		value.Name("Type"), value.Name("Annot"),
		value.Name(kindKey), value.Name(a.Kind),
		value.Name(boxKey), value.Array(value.Real(b.X0), value.Real(b.Y0), value.Real(b.X1), value.Real(b.Y1)),
		value.Name(textKey), text,
		value.Name(destKey), to))
}

// with returns d with the elements of list as the annotations of the page.
func (s sheet) with(d api.Doc, list []api.Object) api.Doc {
	o := value.Null()
	if len(list) > 0 {
		o = value.Array(list...)
	}
	i := s.page
	i.Obj = give.Value(value.Set(i.Obj, annotsKey, o))
	return give.Value(docs.Put(d, i))
}
