package catalog

import (
	"foliant/api"
	"foliant/give"
	"foliant/value"
)

// The numbers of the items of a new document.
const (
	rootNum  = 1
	treeNum  = 2
	firstNum = 3 // of the first page
)

// The size of a new page: letter paper, in points.
const (
	width  = 612
	height = 792
)

// New returns a document with so many empty pages.
func New(pages int) (api.Doc, api.Errno) {
	if pages < 0 || pages > api.MaxPages {
		return api.Doc{}, api.ErrRange
	}
	return give.Caught(func() api.Doc {
		d := api.Doc{Trailer: dict(value.Name("Root"), value.Ref(rootNum, 0))}
		put := func(num int, entries ...api.Object) {
			d.Items = append(d.Items, api.Item{Num: num, Obj: dict(entries...)})
		}
		kids := make([]api.Object, pages)
		for n := range kids {
			kids[n] = value.Ref(firstNum+n, 0)
		}
		put(rootNum, typed("Catalog", value.Name("Pages"), value.Ref(treeNum, 0))...)
		put(treeNum, typed("Pages", value.Name("Count"), value.Int(int64(pages)), value.Name("Kids"), value.Array(kids...))...)
		box := value.Array(value.Int(0), value.Int(0), value.Int(width), value.Int(height))
		for n := range kids {
			put(firstNum+n, typed("Page", value.Name("MediaBox"), box, value.Name("Parent"), value.Ref(treeNum, 0))...)
		}
		return d
	})
}

// typed returns keys and values, which alternate, and those of a type before them.
func typed(kind string, entries ...api.Object) []api.Object {
	return append([]api.Object{value.Name("Type"), value.Name(kind)}, entries...)
}

// dict returns the dictionary of keys and values, which alternate.
func dict(entries ...api.Object) api.Object { return give.Value(value.Dict(entries...)) }
