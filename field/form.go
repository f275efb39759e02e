package field

import (
	"slices"

	"foliant/api"
	"foliant/docs"
	"foliant/give"
	"foliant/web"
)

// The keys of the form and of its nodes.
const (
	formKey    = "AcroForm"
	fieldsKey  = "Fields"
	kidsKey    = "Kids"
	titleKey   = "T"
	typeKey    = "FT"
	valueKey   = "V"
	flagsKey   = "Ff"
	choicesKey = "Opt"
	stateKey   = "AS"
)

// between stands between the names that a full name consists of.
const between = "."

// typeOf returns the name of a kind of fields, or "" if there is no such kind.
func typeOf(kind int) string {
	switch kind {
	case api.FieldText:
		return "Tx"
	case api.FieldCheck:
		return "Btn"
	case api.FieldChoice:
		return "Ch"
	}
	return ""
}

// entry is a field, and the item that it is.
type entry struct {
	api.Field
	item api.Item
}

// entriesOf returns the fields of d, or gives up.
func entriesOf(d api.Doc) []entry {
	give.UpOn(docs.Check(d))
	r := reader{web: web.Of(d), met: map[int]bool{}}
	form := r.web.Path(d.Trailer, "Root", formKey)
	wrong(form.Kind != api.KNull && form.Kind != api.KDict)
	for _, ref := range r.array(form, fieldsKey).Kids {
		r.visit(ref, node{}, 0)
	}
	return r.entries
}

// wrong gives up with the error of a form if something is wrong.
func wrong(is bool) {
	if is {
		give.Up(api.ErrField)
	}
}

// node is a node of the form, with what those below it inherit.
type node struct {
	item api.Item
	name string
	// kids is an array, or null if there is none.
	kids api.Object
	// Each of these is null if neither the node nor one that encloses it has it.
	kind, value, flags api.Object
}

// reader reads the fields of a form. Its methods give up with the first error.
type reader struct {
	web     web.Web
	met     map[int]bool
	entries []entry
}

// array returns the array that a key has, or null if there is no such key.
func (r *reader) array(o api.Object, key string) api.Object {
	v := r.web.Path(o, key)
	wrong(v.Kind != api.KNull && v.Kind != api.KArray)
	return v
}

// visit reads the fields of the node that ref refers to, which is nested in so many others, the nearest of which is above.
func (r *reader) visit(ref api.Object, above node, inside int) {
	n := r.node(r.meet(ref, inside), above)
	if !slices.ContainsFunc(n.kids.Kids, r.titled) {
		r.entries = append(r.entries, entry{r.field(n), n.item})
		return
	}
	for _, kid := range n.kids.Kids {
		r.visit(kid, n, inside+1)
	}
}

// meet returns the item of a node, which must not have been met before, be one too many, or be nested too deep.
func (r *reader) meet(ref api.Object, inside int) api.Item {
	i, ok := r.web.Dict(ref)
	wrong(!ok)
	if r.met[i.Num] {
		give.Up(api.ErrLoop)
	}
	r.met[i.Num] = true
	if len(r.met) > api.MaxTree {
		give.Up(api.ErrMany)
	}
	if inside >= api.MaxDepth {
		give.Up(api.ErrDeep)
	}
	return i
}

// node returns the node of an item.
func (r *reader) node(i api.Item, above node) node {
	n := node{item: i, name: above.name, kids: r.array(i.Obj, kidsKey)}
	title := r.web.Path(i.Obj, titleKey)
	wrong(title.Kind != api.KNull && title.Kind != api.KString)
	if title.Kind == api.KString {
		n.name = title.S
		if above.name != "" {
			n.name = above.name + between + title.S
		}
	}
	inherit := func(key string, otherwise api.Object) api.Object {
		if o := r.web.Path(i.Obj, key); o.Kind != api.KNull {
			return o
		}
		return otherwise
	}
	n.kind, n.value, n.flags = inherit(typeKey, above.kind), inherit(valueKey, above.value), inherit(flagsKey, above.flags)
	return n
}

// titled reports whether o is a reference to a dictionary that has a name of its own, as the kids of internal nodes have.
func (r *reader) titled(o api.Object) bool {
	i, ok := r.web.Dict(o)
	return ok && r.web.Path(i.Obj, titleKey).Kind != api.KNull
}

// field returns the field that a node is.
func (r *reader) field(n node) api.Field {
	f := api.Field{Name: n.name, Kind: kindOf(n.kind)}
	wrong(f.Kind == 0)
	switch n.value.Kind {
	case api.KNull, api.KString, api.KName:
		f.Value = n.value.S
	default:
		wrong(true)
	}
	wrong(n.flags.Kind != api.KNull && n.flags.Kind != api.KInt)
	f.Flags = int(n.flags.N)
	if f.Kind == api.FieldChoice {
		f.Choices = r.choices(n.item.Obj)
	}
	f.Shows = r.shows(n)
	return f
}

// kindOf returns the kind of fields that a name stands for, or 0 if there is none.
func kindOf(o api.Object) int {
	for _, kind := range [...]int{api.FieldText, api.FieldCheck, api.FieldChoice} {
		if o.Kind == api.KName && o.S == typeOf(kind) {
			return kind
		}
	}
	return 0
}

// choices returns what the field of a dictionary lets choose from.
func (r *reader) choices(o api.Object) []string {
	var l []string
	for _, choice := range r.array(o, choicesKey).Kids {
		wrong(choice.Kind != api.KString)
		l = append(l, choice.S)
	}
	return l
}

// shows returns the numbers of the items that show a field.
func (r *reader) shows(n node) []int {
	if n.kids.Kind == api.KNull {
		return []int{n.item.Num}
	}
	var l []int
	for _, kid := range n.kids.Kids {
		i, ok := r.web.Dict(kid)
		wrong(!ok)
		l = append(l, i.Num)
	}
	return l
}
