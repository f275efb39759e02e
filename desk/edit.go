package desk

import (
	"foliant/api"
	"foliant/build"
	"foliant/clean"
	"foliant/dest"
	"foliant/docs"
	"foliant/give"
	"foliant/look"
	"foliant/pages"
	"foliant/parse"
	"foliant/value"
)

// The size of a page that is inserted.
const (
	pageWidth  = 612
	pageHeight = 792
)

// edit performs a step that changes the document, or gives up.
func (x *Desk) edit(s api.Step) api.Answer {
	n := 0
	switch s.Kind {
	case api.StepPut:
		x.doc, n = put(x.doc, s.A, s.S), s.A
	case api.StepDrop:
		x.doc = give.Value(docs.Drop(x.doc, s.A))
	case api.StepInsert:
		x.doc, n = insert(x.doc, s.A, s.S)
	case api.StepRemove:
		x.doc = give.Value(build.Remove(x.doc, s.A))
		n = give.Value(pages.Count(x.doc))
	case api.StepMove:
		x.doc = give.Value(build.Move(x.doc, s.A, s.B))
		n = give.Value(pages.Count(x.doc))
	case api.StepName:
		x.doc = give.Value(dest.SetNamed(x.doc, s.S, api.Dest{Page: s.A, Kind: api.DestFit}))
	case api.StepFill:
		x.doc = give.Value(look.Fill(x.doc, s.S, s.T))
	case api.StepClean:
		was := len(x.doc.Items)
		x.doc = give.Value(clean.Doc(x.doc, clean.Usual()))
		n = was - len(x.doc.Items)
	}
	return api.Answer{N: n}
}

// put returns d with the object of a text as the item num.
func put(d api.Doc, num int, text string) api.Doc {
	o := give.Value(parse.Whole(text))
	was, _ := docs.Get(d, num)
	return give.Value(docs.Put(d, api.Item{Num: num, Gen: was.Gen, Obj: o}))
}

// insert returns d with a page at the index at that has a content, and the number of that page.
func insert(d api.Doc, at int, content string) (api.Doc, int) {
	d, stream, e := docs.Add(d, api.Object{Kind: api.KStream, S: content})
	give.UpOn(e)
	font := dict(
		value.Name("BaseFont"), value.Name("Helvetica"),
		value.Name("Subtype"), value.Name("Type1"),
		value.Name("Type"), value.Name("Font"))
	page := dict(
		value.Name("Contents"), value.Ref(stream, 0),
		value.Name("MediaBox"), value.Array(value.Int(0), value.Int(0), value.Int(pageWidth), value.Int(pageHeight)),
		value.Name("Resources"), dict(value.Name("Font"), dict(value.Name("F1"), font)),
		value.Name("Type"), value.Name("Page"))
	d, num, e := build.Insert(d, at, page)
	give.UpOn(e)
	return d, num
}

// dict returns the dictionary of keys and values, which take turns.
func dict(pairs ...api.Object) api.Object { return give.Value(value.Dict(pairs...)) }
