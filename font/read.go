package font

import (
	"cmp"
	"slices"

	"foliant/api"
	"foliant/cmap"
	"foliant/filter"
	"foliant/give"
	"foliant/value"
)

// The keys and names of a font's dictionaries.
const (
	subtypeKey     = "Subtype"
	nameKey        = "BaseFont"
	firstKey       = "FirstChar"
	widthsKey      = "Widths"
	descriptorKey  = "FontDescriptor"
	missingKey     = "MissingWidth"
	encodingKey    = "Encoding"
	differencesKey = "Differences"
	descendantsKey = "DescendantFonts"
	wideMissingKey = "DW"
	wideWidthsKey  = "W"
	mapsKey        = "ToUnicode"

	simpleType   = "Type1"
	trueType     = "TrueType"
	wideType     = "Type0"
	wideEncoding = "Identity-H"
)

// wideMissing is the width that a wide font without DW has for codes that it does not mention.
const wideMissing = 1000

// Read returns the font that a dictionary of a document describes.
func Read(d api.Doc, o api.Object) (api.Font, api.Errno) {
	r := reader{follow: follower(d)}
	return give.Caught(func() api.Font { return r.font(r.follow(o)) })
}

// follower returns what resolves objects by the items of a document, valid or not. The items are searched in the order of their numbers, since a font can have thousands of references.
func follower(d api.Doc) func(o api.Object) api.Object {
	items := d.Items
	byNum := func(a, b api.Item) int { return cmp.Compare(a.Num, b.Num) }
	if !slices.IsSortedFunc(items, byNum) {
		items = slices.Clone(items)
		slices.SortStableFunc(items, byNum)
	}
	return func(o api.Object) api.Object {
		if o.Kind != api.KRef {
			return o
		}
		at, ok := slices.BinarySearchFunc(items, o.N, func(i api.Item, num int64) int { return cmp.Compare(int64(i.Num), num) })
		if !ok || items[at].Gen != o.G {
			return value.Null()
		}
		return items[at].Obj
	}
}

// reader reads a font's values, each of which is resolved by follow. Its methods give up with the error of a font unless a value is as it must be.
type reader struct {
	follow func(o api.Object) api.Object
}

// wrong gives up with the error of a font if something is wrong.
func wrong(is bool) {
	if is {
		give.Up(api.ErrFont)
	}
}

// get returns the value of a key, or null if there is none.
func (r reader) get(o api.Object, key string) api.Object {
	v, _ := value.Get(o, key)
	return r.follow(v)
}

// whole returns an integer from 0 to most.
func whole(o api.Object, most int64) int64 {
	wrong(o.Kind != api.KInt || o.N < 0 || o.N > most)
	return o.N
}

// wholeAt returns the integer from 0 to most that a key has, or another one if there is none.
func (r reader) wholeAt(o api.Object, key string, most, otherwise int64) int64 {
	v := r.get(o, key)
	if v.Kind == api.KNull {
		return otherwise
	}
	return whole(v, most)
}

// list returns the elements of an array.
func (r reader) list(o api.Object) []api.Object {
	wrong(o.Kind != api.KArray)
	var l []api.Object
	for _, kid := range o.Kids {
		l = append(l, r.follow(kid))
	}
	return l
}

// listAt returns the elements of the array that a key has, or none if there is no array.
func (r reader) listAt(o api.Object, key string) []api.Object {
	v := r.get(o, key)
	if v.Kind == api.KNull {
		return nil
	}
	return r.list(v)
}

// widths returns the widths that a list has.
func widths(l []api.Object) []int64 {
	var list []int64
	for _, o := range l {
		list = append(list, whole(o, maxWidth))
	}
	return list
}

// font reads a font from its dictionary.
func (r reader) font(o api.Object) api.Font {
	wrong(o.Kind != api.KDict)
	kind, name := r.get(o, subtypeKey), r.get(o, nameKey)
	wrong(kind.Kind != api.KName || name.Kind != api.KName)
	var f api.Font
	switch kind.S {
	case simpleType, trueType:
		f = r.simple(o)
	case wideType:
		f = r.wide(o)
	default:
		give.Up(api.ErrFont)
	}
	f.Name = name.S
	text := r.get(o, mapsKey)
	wrong(text.Kind != api.KNull && text.Kind != api.KStream)
	wrong(!sound(f))
	if text.Kind == api.KStream {
		f.Maps = mapsOf(text, f.Wide)
	}
	return f
}

// mapsOf returns the maps of a font that is wide or not.
func mapsOf(o api.Object, wide bool) []api.Map {
	l, isWide, e := cmap.Read(give.Value(filter.Decode(o)))
	give.UpOn(e)
	wrong(len(l) > 0 && (isWide != wide || cmap.Check(l, wide) != api.OK))
	return l
}

// simple reads a font whose codes have one byte, but for its name and its maps.
func (r reader) simple(o api.Object) api.Font {
	return api.Font{
		First:   int(r.wholeAt(o, firstKey, codes-1, 0)),
		Widths:  widths(r.listAt(o, widthsKey)),
		Missing: r.missing(r.get(o, descriptorKey)),
		Names:   r.names(r.get(o, encodingKey)),
	}
}

// missing returns the width that a font descriptor tells for the codes that have none, if it is one.
func (r reader) missing(o api.Object) int64 {
	if o.Kind != api.KDict {
		return 0
	}
	return r.wholeAt(o, missingKey, maxWidth, 0)
}

// names returns the names that an encoding has, if it is more than a name itself.
func (r reader) names(o api.Object) []string {
	if o.Kind == api.KNull || o.Kind == api.KName {
		return nil
	}
	wrong(o.Kind != api.KDict)
	list := Usual()
	// There is no code for a name before the first integer.
	code := len(list)
	for _, v := range r.list(r.get(o, differencesKey)) {
		if v.Kind == api.KInt {
			code = int(whole(v, codes-1))
			continue
		}
		wrong(v.Kind != api.KName || code >= len(list))
		list[code] = v.S
		code++
	}
	return list
}
