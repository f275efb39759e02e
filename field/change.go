package field

import (
	"maps"
	"slices"
	"strings"

	"foliant/api"
	"foliant/catalog"
	"foliant/docs"
	"foliant/give"
	"foliant/pages"
	"foliant/value"
	"foliant/web"
)

// annotsKey is the key of a page that has its widgets, among others.
const annotsKey = "Annots"

// object returns the object in which fields of a kind keep a value.
func object(kind int, v string) api.Object {
	if kind == api.FieldCheck {
		return value.Name(v)
	}
	return value.String(v)
}

// filled returns the items of d that are another once the field has a value, as they are then.
func (e entry) filled(d api.Doc, v string) []api.Item {
	w := web.Of(d)
	changed := map[int]api.Item{}
	set := func(num int, key string) {
		i, ok := changed[num]
		if !ok {
			i, _ = w.Num(num)
		}
		i.Obj = give.Value(value.Set(i.Obj, key, object(e.Kind, v)))
		changed[num] = i
	}
	set(e.item.Num, valueKey)
	if e.Kind == api.FieldCheck {
		shown := map[int]bool{}
		for _, num := range e.Shows {
			if !shown[num] {
				set(num, stateKey)
			}
			shown[num] = true
		}
	}
	var l []api.Item
	for _, num := range slices.Sorted(maps.Keys(changed)) {
		l = append(l, changed[num])
	}
	return l
}

// check gives up with the error of a field that can't be added to any form.
func check(f api.Field) {
	switch {
	case f.Name == "" || strings.Contains(f.Name, between) || len(f.Shows) > 0:
		give.Up(api.ErrArg)
	case len(f.Name) > api.MaxText:
		give.Up(api.ErrLong)
	case f.Flags < 0 || f.Flags > api.MaxInt:
		give.Up(api.ErrRange)
	}
	fresh := f
	fresh.Flags = 0
	give.UpOn(May(fresh, f.Value))
	if len(f.Choices) > 0 && f.Kind != api.FieldChoice {
		give.Up(api.ErrArg)
	}
}

// checkBox gives up unless the coordinates of a box are in range.
func checkBox(box api.Rect) {
	for _, n := range [...]int64{box.X0, box.Y0, box.X1, box.Y1} {
		if n < -api.MaxFix || n > api.MaxFix {
			give.Up(api.ErrRange)
		}
	}
}

// added returns d with a field that may be added to it.
func added(d api.Doc, page int, f api.Field, box api.Rect) api.Doc {
	p := give.Value(pages.Get(d, page))
	// Read before there is the new item, to which a reference of these that is dangling may lead then.
	form := docs.Path(d, d.Trailer, "Root", formKey)
	if form.Kind == api.KNull {
		form = api.Object{Kind: api.KDict}
	}
	fields := docs.Path(d, form, fieldsKey)
	sheet, _ := docs.Get(d, p.Num)
	annots := docs.Path(d, sheet.Obj, annotsKey)

	d, num, e := docs.Add(d, widget(f, box, value.Ref(sheet.Num, sheet.Gen)))
	give.UpOn(e)
	form = give.Value(value.Set(form, fieldsKey, longer(fields, num)))
	d = give.Value(catalog.SetRoot(d, formKey, form))
	// Taken anew, since the page can be the catalog too.
	sheet, _ = docs.Get(d, p.Num)
	sheet.Obj = give.Value(value.Set(sheet.Obj, annotsKey, longer(annots, num)))
	return give.Value(docs.Put(d, sheet))
}

// longer returns the array o, or an empty one if o is none, with a reference to the item with the number num behind the rest.
func longer(o api.Object, num int) api.Object {
	if o.Kind != api.KArray {
		o = api.Object{Kind: api.KArray}
	}
	o.Kids = append(slices.Clone(o.Kids), value.Ref(num, 0))
	return o
}

// widget returns the dictionary of a field that stands in a box on a page.
func widget(f api.Field, box api.Rect, page api.Object) api.Object {
	v := object(f.Kind, f.Value)
	flags, choices, state := value.Null(), value.Null(), value.Null()
	if f.Flags != 0 {
		flags = value.Int(int64(f.Flags))
	}
	if len(f.Choices) > 0 {
		choices = api.Object{Kind: api.KArray}
		for _, s := range f.Choices {
			choices.Kids = append(choices.Kids, value.String(s))
		}
	}
	if f.Kind == api.FieldCheck {
		state = v
	}
	return give.Value(value.Dict(
		value.Name("Type"), value.Name("Annot"),
		value.Name("Subtype"), value.Name("Widget"),
		value.Name(typeKey), value.Name(typeOf(f.Kind)),
		value.Name(titleKey), value.String(f.Name),
		value.Name(valueKey), v,
		value.Name(flagsKey), flags,
		value.Name(choicesKey), choices,
		value.Name("Rect"), value.Array(value.Real(box.X0), value.Real(box.Y0), value.Real(box.X1), value.Real(box.Y1)),
		value.Name("P"), page,
		value.Name(stateKey), state))
}
