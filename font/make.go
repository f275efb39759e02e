package font

import (
	"foliant/api"
	"foliant/cmap"
	"foliant/docs"
	"foliant/give"
	"foliant/value"
)

// Make returns d with the objects of a font, and a reference to its dictionary, which is the last of them.
func Make(d api.Doc, f api.Font) (api.Doc, api.Object, api.Errno) {
	ref, e := give.Caught(func() api.Object {
		give.UpOn(docs.Check(d))
		give.UpOn(Check(f))
		return added(f, func(o api.Object) api.Object {
			more, num, e := docs.Add(d, o)
			give.UpOn(e)
			d = more
			return value.Ref(num, 0)
		})
	})
	if e != api.OK {
		return api.Doc{}, api.Object{}, e
	}
	return d, ref, api.OK
}

// added adds the objects of a font, and returns a reference to its dictionary. Each object is added by add, which returns a reference to it.
func added(f api.Font, add func(o api.Object) api.Object) api.Object {
	entries := simpleEntries
	if f.Wide {
		entries = wideEntries
	}
	l := entries(f, add)
	if len(f.Maps) > 0 {
		// Whether the text is too long for a stream is told with the object that it becomes.
		text := give.Value(cmap.Text(f.Maps, f.Wide))
		l = append(l, value.Name(mapsKey), add(api.Object{Kind: api.KStream, S: text}))
	}
	return add(dict("Font", append(l, value.Name(nameKey), value.Name(f.Name))...))
}

// dict returns the dictionary of a type with more keys and values.
func dict(kind string, pairs ...api.Object) api.Object {
	return give.Value(value.Dict(append(pairs, value.Name("Type"), value.Name(kind))...))
}

// integers returns the array of numbers.
func integers(l []int64) api.Object {
	o := api.Object{Kind: api.KArray}
	for _, n := range l {
		o.Kids = append(o.Kids, value.Int(n))
	}
	return o
}

// simpleEntries returns the keys and values that only a font whose codes have one byte has.
func simpleEntries(f api.Font, add func(o api.Object) api.Object) []api.Object {
	l := []api.Object{value.Name(subtypeKey), value.Name(simpleType)}
	put := func(key string, v api.Object) { l = append(l, value.Name(key), v) }
	// A font without widths may begin after the last code, where no first one can stand.
	if f.First < codes {
		put(firstKey, value.Int(int64(f.First)))
	}
	if n := len(f.Widths); n > 0 {
		put("LastChar", value.Int(int64(f.First+n-1)))
		put(widthsKey, integers(f.Widths))
	}
	if f.Missing != 0 {
		put(descriptorKey, add(dict("FontDescriptor", value.Name("FontName"), value.Name(f.Name), value.Name(missingKey), value.Int(f.Missing))))
	}
	if len(f.Names) > 0 {
		put(encodingKey, dict("Encoding", value.Name(differencesKey), differences(f.Names)))
	}
	return l
}

// differences returns the names that are not the usual ones, each run of them after its first code.
func differences(names []string) api.Object {
	o := api.Object{Kind: api.KArray}
	next := len(names)
	for code, usual := range Usual() {
		if names[code] == usual {
			continue
		}
		if code != next {
			o.Kids = append(o.Kids, value.Int(int64(code)))
		}
		o.Kids = append(o.Kids, value.Name(names[code]))
		next = code + 1
	}
	return o
}

// wideEntries returns the keys and values that only a font whose codes have two bytes has.
func wideEntries(f api.Font, add func(o api.Object) api.Object) []api.Object {
	system := give.Value(value.Dict(value.Name("Ordering"), value.String("Identity"), value.Name("Registry"), value.String("Adobe"), value.Name("Supplement"), value.Int(0)))
	l := []api.Object{
		value.Name(subtypeKey), value.Name("CIDFontType2"),
		value.Name(nameKey), value.Name(f.Name),
		value.Name("CIDSystemInfo"), system,
		value.Name(wideMissingKey), value.Int(f.Missing),
	}
	if len(f.Widths) > 0 {
		l = append(l, value.Name(wideWidthsKey), value.Array(value.Int(int64(f.First)), integers(f.Widths)))
	}
	return []api.Object{
		value.Name(subtypeKey), value.Name(wideType),
		value.Name(encodingKey), value.Name(wideEncoding),
		value.Name(descendantsKey), value.Array(add(dict("Font", l...))),
	}
}
