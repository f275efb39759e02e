package pages

import (
	"strings"

	"foliant/api"
	"foliant/filter"
	"foliant/give"
	"foliant/value"
)

// What a page inherits if it has none of its own.
const (
	resources = iota
	mediaBox
	cropBox
	rotate
	inherited // how many they are
)

// traits has the resolved values of what a node has or inherits, each null if there is none.
type traits [inherited]api.Object

// keys returns the keys of the traits.
func keys() [inherited]string {
	return [...]string{resources: "Resources", mediaBox: "MediaBox", cropBox: "CropBox", rotate: "Rotate"}
}

// traitsOf returns the traits of a node below one with the traits above.
func (t tree) traitsOf(n node, above traits) traits {
	for i, key := range keys() {
		if o := t.web.Path(n.item.Obj, key); o.Kind != api.KNull {
			above[i] = o
		}
	}
	return above
}

// page returns what is told of a page, or gives up if something is wrong with it.
func (t tree) page(n node) api.Page {
	p := api.Page{Num: n.item.Num, Media: t.box(n.traits[mediaBox]), Rotate: turn(n.traits[rotate])}
	p.Crop = p.Media
	if o := n.traits[cropBox]; o.Kind != api.KNull {
		p.Crop = cropped(p.Media, t.box(o))
	}
	switch o := n.traits[resources]; o.Kind {
	case api.KNull:
		p.Res = api.Object{Kind: api.KDict}
	case api.KDict:
		p.Res = value.Clone(o)
	default:
		give.Up(api.ErrPage)
	}
	return p
}

// box returns the rectangle of a box.
func (t tree) box(o api.Object) api.Rect {
	r, e := Box(t.web, o)
	if e != api.OK {
		give.Up(api.ErrPage)
	}
	return r
}

// cropped returns what two rectangles share, or the first one if that is nothing.
func cropped(media, crop api.Rect) api.Rect {
	r := api.Rect{X0: max(media.X0, crop.X0), Y0: max(media.Y0, crop.Y0), X1: min(media.X1, crop.X1), Y1: min(media.Y1, crop.Y1)}
	if r.X0 >= r.X1 || r.Y0 >= r.Y1 {
		return media
	}
	return r
}

// turn returns by how many degrees a page is turned.
func turn(o api.Object) int {
	const quarter, full = 90, 360
	if o.Kind == api.KNull {
		return 0
	}
	if o.Kind != api.KInt || o.N%quarter != 0 {
		give.Up(api.ErrPage)
	}
	return int((o.N%full + full) % full)
}

// content returns the decoded content of a page.
func (t tree) content(n node) string {
	o := t.web.Path(n.item.Obj, "Contents")
	switch o.Kind {
	case api.KNull:
	case api.KStream:
		return give.Value(filter.Decode(o))
	case api.KArray:
		return t.joined(o.Kids)
	default:
		give.Up(api.ErrPage)
	}
	return ""
}

// joined returns the decoded data of the streams to which refs refer, with line feeds between them.
func (t tree) joined(refs []api.Object) string {
	for _, ref := range refs {
		if t.web.Follow(ref).Kind != api.KStream {
			give.Up(api.ErrPage)
		}
	}
	var all strings.Builder
	// A stream is decoded once, however often it stands in the list.
	decoded := map[int64]string{}
	for i, ref := range refs {
		data, ok := decoded[ref.N]
		if !ok {
			data = give.Value(filter.Decode(t.web.Follow(ref)))
			decoded[ref.N] = data
		}
		if i > 0 {
			all.WriteByte('\n')
		}
		all.WriteString(data)
		if all.Len() > api.MaxData {
			give.Up(api.ErrLong)
		}
	}
	return all.String()
}
