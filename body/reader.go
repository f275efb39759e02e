package body

import (
	"foliant/api"
	"foliant/give"
	"foliant/lex"
	"foliant/octet"
	"foliant/parse"
	"foliant/value"
)

// reader reads the parts of an indirect object of s from offset at on, and gives up with the first error.
type reader struct {
	s  string
	at int
}

// header is the object number and the generation of an indirect object.
type header struct {
	num, gen int
}

// next reads the next token, which must not be the end of s.
func (r *reader) next() api.Token {
	t := give.Value(lex.Next(r.s, r.at))
	if t.Kind == api.TEnd {
		give.Up(api.ErrEnd)
	}
	r.at = t.To
	return t
}

// is reports whether t is the given keyword.
func is(t api.Token, keyword string) bool { return t.Kind == api.TWord && t.S == keyword }

// keyword reads the given keyword.
func (r *reader) keyword(k string) {
	if !is(r.next(), k) {
		give.Up(api.ErrForm)
	}
}

// number reads a number from least to most.
func (r *reader) number(least, most int64) int {
	t := r.next()
	if t.Kind != api.TInt {
		give.Up(api.ErrForm)
	}
	if t.N < least || t.N > most {
		give.Up(api.ErrRange)
	}
	return int(t.N)
}

// head reads the header of an indirect object.
func (r *reader) head() header {
	num := r.number(1, api.MaxNum)
	gen := r.number(0, api.MaxGen)
	r.keyword("obj")
	return header{num, gen}
}

// object reads an object.
func (r *reader) object() api.Object {
	o, to, e := parse.Object(r.s, r.at)
	give.UpOn(e)
	r.at = to
	return o
}

// streams reports whether the next token is the keyword stream, without reading it.
func (r *reader) streams() bool {
	t, e := lex.Next(r.s, r.at)
	return e == api.OK && is(t, "stream")
}

// item reads an indirect object. A length that is not negative is that of its data, if it is a stream.
func (r *reader) item(length int) api.Item {
	h := r.head()
	o := r.object()
	if o.Kind == api.KRef {
		give.Up(api.ErrKind)
	}
	t := r.next()
	if o.Kind == api.KDict && is(t, "stream") {
		o = r.stream(o, length)
	} else if !is(t, "endobj") {
		give.Up(api.ErrForm)
	}
	return api.Item{Num: h.num, Gen: h.gen, Obj: o}
}

// stream reads what follows the keyword stream, up to the end of the indirect object.
func (r *reader) stream(dict api.Object, length int) api.Object {
	r.lineEnd()
	if length < 0 {
		length = told(dict)
	}
	if length > api.MaxData {
		give.Up(api.ErrLong)
	}
	if length > len(r.s)-r.at {
		give.Up(api.ErrEnd)
	}
	data := r.s[r.at : r.at+length]
	r.at += length
	r.keyword("endstream")
	r.keyword("endobj")
	return give.Value(value.Stream(dict, data))
}

// lineEnd reads the end of line that must stand directly before the data.
func (r *reader) lineEnd() {
	rest := r.s[r.at:]
	switch {
	case rest == "" || rest == "\r":
		give.Up(api.ErrEnd)
	case octet.Begins(rest, "\r\n", 0):
		r.at += 2
	case rest[0] == '\n':
		r.at++
	default:
		give.Up(api.ErrForm)
	}
}

// told returns the number of data bytes that a stream's dictionary tells.
func told(dict api.Object) int {
	length, ok := value.Get(dict, "Length")
	switch {
	case !ok:
		give.Up(api.ErrForm)
	case length.Kind != api.KInt:
		give.Up(api.ErrKind)
	case length.N < 0:
		give.Up(api.ErrRange)
	}
	return int(length.N)
}
