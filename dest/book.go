package dest

import (
	"foliant/api"
	"foliant/give"
	"foliant/names"
	"foliant/pages"
	"foliant/value"
	"foliant/web"
)

// The keys of the catalog, and of what it leads to.
const (
	namesKey = "Names"
	destsKey = "Dests"
	pageKey  = "D"
)

// Book reads and makes the destinations of a document, whose pages it lists once for all of them.
type Book struct {
	doc api.Doc
	web web.Web
	// listed tells that places and pages, or the error, are there.
	listed bool
	err    api.Errno
	pages  []api.Item
	places map[int]int
}

// Of returns the book of a valid document, in whose memory it stays.
func Of(d api.Doc) *Book { return &Book{doc: d, web: web.Of(d)} }

// Read does what the function Read does, for a valid object.
func (b *Book) Read(o api.Object) (api.Dest, api.Errno) {
	return give.Caught(func() api.Dest { return b.read(o) })
}

// Make does what the function Make does.
func (b *Book) Make(x api.Dest) (api.Object, api.Errno) {
	return give.Caught(func() api.Object { return b.array(x) })
}

// list lists the pages, or gives up with their error.
func (b *Book) list() {
	if !b.listed {
		var list []api.Page
		list, b.err = pages.List(b.doc)
		b.places = map[int]int{}
		for at, p := range list {
			i, _ := b.web.Num(p.Num)
			b.pages = append(b.pages, i)
			b.places[p.Num] = at
		}
		b.listed = true
	}
	give.UpOn(b.err)
}

// path returns what the keys lead to from the catalog.
func (b *Book) path(keys ...string) api.Object {
	return b.web.Path(b.web.Path(b.doc.Trailer, "Root"), keys...)
}

// read returns the destination that o leads to.
func (b *Book) read(o api.Object) api.Dest {
	o = b.web.Follow(o)
	if o.Kind == api.KName || o.Kind == api.KString {
		return b.named(o.S)
	}
	return b.direct(o)
}

// named returns the destination that has a name.
func (b *Book) named(name string) api.Dest {
	o, e := names.Lookup(b.web, b.path(namesKey, destsKey), name)
	if e != api.OK && e != api.ErrNone {
		give.Up(e)
	}
	// An entry that is null is as good as none, but one that leads to null is an entry.
	if o.Kind != api.KNull {
		return b.direct(o)
	}
	dests := b.path(destsKey)
	o, ok := web.Get(dests, name)
	if dests.Kind != api.KDict || !ok {
		give.Up(api.ErrNone)
	}
	return b.direct(o)
}

// entries returns the entries of the tree of names.
func (b *Book) entries() []api.Entry {
	tree := b.path(namesKey, destsKey)
	if tree.Kind == api.KNull {
		return nil
	}
	return give.Value(names.Read(b.doc, tree))
}

// direct returns the destination that o resolves to, which is no name.
func (b *Book) direct(o api.Object) api.Dest {
	o = b.web.Follow(o)
	if o.Kind == api.KDict {
		o = b.web.Path(o, pageKey)
	}
	if o.Kind != api.KArray {
		give.Up(api.ErrKind)
	}
	x := b.shown(o.Kids)
	b.list()
	i, _ := b.web.Item(o.Kids[0])
	at, ok := b.places[i.Num]
	if !ok {
		give.Up(api.ErrNone)
	}
	x.Page = at
	return x
}

// shown returns the destination of an array, without its page, to which the array must refer.
func (b *Book) shown(l []api.Object) api.Dest {
	if len(l) < 2 || l[0].Kind != api.KRef || l[1].Kind != api.KName {
		give.Up(api.ErrForm)
	}
	v, ok := views()[l[1].S]
	if !ok || len(l) != 2+len(v.letters) {
		give.Up(api.ErrForm)
	}
	x := api.Dest{Kind: v.kind}
	for i, o := range l[2:] {
		o = b.web.Follow(o)
		n, ok := value.Number(o)
		if !ok && o.Kind != api.KNull {
			give.Up(api.ErrForm)
		}
		*number(&x, v.letters[i]) = n
	}
	return x
}

// array returns a destination as an array.
func (b *Book) array(x api.Dest) api.Object {
	v, name, ok := viewOf(x.Kind)
	if !ok {
		give.Up(api.ErrKind)
	}
	for _, n := range [...]int64{x.X, x.Y, x.Z, x.W} {
		if n < -api.MaxFix || n > api.MaxFix {
			give.Up(api.ErrRange)
		}
	}
	// What is left of x is what its kind does not have.
	left := api.Dest{X: x.X, Y: x.Y, Z: x.Z, W: x.W}
	var numbers []api.Object
	for _, letter := range []byte(v.letters) {
		n := number(&left, letter)
		numbers = append(numbers, value.Units(*n))
		*n = 0
	}
	if left != (api.Dest{}) {
		give.Up(api.ErrArg)
	}
	b.list()
	if x.Page < 0 || x.Page >= len(b.pages) {
		give.Up(api.ErrRange)
	}
	page := b.pages[x.Page]
	return value.Array(append([]api.Object{value.Ref(page.Num, page.Gen), value.Name(name)}, numbers...)...)
}
