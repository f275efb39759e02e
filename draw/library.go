package draw

import (
	"foliant/api"
	"foliant/filter"
	"foliant/font"
	"foliant/give"
	"foliant/matrix"
	"foliant/ops"
	"foliant/value"
	"foliant/web"
)

// The keys of resources and of what they lead to.
const (
	fontsKey     = "Font"
	objectsKey   = "XObject"
	kindKey      = "Subtype"
	resourcesKey = "Resources"
	matrixKey    = "Matrix"

	imageKind = "Image"
	formKind  = "Form"
)

// library has what the contents of a valid document use, and keeps what was read of it, since contents can use the same thing thousands of times.
type library struct {
	doc   api.Doc
	web   web.Web
	forms map[int]*form
	// fonts has those that are items, by their numbers.
	fonts map[int]api.Font
}

// libraryOf returns the library of a valid document, in whose memory it stays.
func libraryOf(d api.Doc) *library {
	return &library{doc: d, web: web.Of(d), forms: map[int]*form{}, fonts: map[int]api.Font{}}
}

// resources are a dictionary of resources, and the fonts that were read by it so far, by their names.
type resources struct {
	dict  api.Object
	fonts map[string]api.Font
}

// resourcesOf returns the resources of a dictionary.
func resourcesOf(dict api.Object) *resources {
	return &resources{dict: dict, fonts: map[string]api.Font{}}
}

// font returns the font that has a name in resources, or gives up.
func (l *library) font(res *resources, name string) api.Font {
	f, ok := res.fonts[name]
	if ok {
		return f
	}
	list := l.web.Path(res.dict, fontsKey)
	o, _ := web.Get(list, name)
	if list.Kind != api.KDict || l.web.Follow(o).Kind == api.KNull {
		give.Up(api.ErrFont)
	}
	f = l.fontOf(o)
	res.fonts[name] = f
	return f
}

// fontOf returns the font that o is or refers to, or gives up.
func (l *library) fontOf(o api.Object) api.Font {
	if o.Kind != api.KRef {
		return give.Value(font.Read(l.doc, o))
	}
	num := int(o.N)
	f, ok := l.fonts[num]
	if !ok {
		f = give.Value(font.Read(l.doc, o))
		l.fonts[num] = f
	}
	return f
}

// program is a content that was read: its operators, or the error that is told when it is to be interpreted.
type program struct {
	ops []api.Op
	err api.Errno
}

// programOf returns the program of a content.
func programOf(content string) program {
	list, fault := ops.Read(content)
	return program{list, fault.Err}
}

// form is a form XObject: its content, where that goes, and its resources, or nil if it has none of its own.
type form struct {
	program
	matrix api.Matrix
	res    *resources
}

// form returns the form that is the item with the number num, or gives up.
func (l *library) form(num int) *form {
	f := l.forms[num]
	if f == nil {
		i, _ := l.web.Num(num)
		f = l.formOf(i.Obj)
		l.forms[num] = f
	}
	return f
}

// formOf returns the form of a stream, or gives up.
func (l *library) formOf(o api.Object) *form {
	f := form{matrix: matrix.One()}
	data := give.Value(filter.Decode(o))
	switch dict := l.web.Path(o, resourcesKey); dict.Kind {
	case api.KNull:
	case api.KDict:
		f.res = resourcesOf(dict)
	default:
		give.Up(api.ErrKind)
	}
	if list := l.web.Path(o, matrixKey); list.Kind != api.KNull {
		f.matrix = give.Value(matrix.Read(list))
	}
	f.program = programOf(data)
	return &f
}

// isName reports whether o is a name.
func isName(o api.Object, name string) bool { return value.Same(o, value.Name(name)) }
