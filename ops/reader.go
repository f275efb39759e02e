package ops

import (
	"foliant/api"
	"foliant/give"
	"foliant/lex"
	"foliant/octet"
	"foliant/parse"
	"foliant/value"
)

// reader reads the operators of s from offset at on, and gives up with the first error, whose offset is from.
type reader struct {
	s        string
	from, at int
}

// ops reads all operators.
func (r *reader) ops() []api.Op {
	var l []api.Op
	var args []api.Object
	for t := r.next(); t.Kind != api.TEnd; t = r.next() {
		if !isWord(t) {
			args = append(args, r.operand(len(args)))
			continue
		}
		if len(l) >= api.MaxOps {
			give.Up(api.ErrMany)
		}
		l = append(l, r.op(t.S, args))
		args = nil
	}
	if len(args) > 0 {
		give.Up(api.ErrEnd)
	}
	return l
}

// next reads the next token, which may be the end of s.
func (r *reader) next() api.Token {
	r.from = octet.Skip(r.s, r.at)
	t := give.Value(lex.Next(r.s, r.from))
	r.at = t.To
	return t
}

// isWord reports whether t is a word that is no object.
func isWord(t api.Token) bool {
	return t.Kind == api.TWord && t.S != "true" && t.S != "false" && t.S != "null"
}

// operand reads anew, as an operand that has so many before it, what the last token begins.
func (r *reader) operand(before int) api.Object {
	o := r.object(r.from)
	if before >= api.MaxArgs {
		give.Up(api.ErrMany)
	}
	return o
}

// object reads the object from offset at, in which there must be no reference.
func (r *reader) object(at int) api.Object {
	r.from = octet.Skip(r.s, at)
	o, to, e := parse.Object(r.s, r.from)
	give.UpOn(e)
	if refers(o) {
		give.Up(api.ErrForm)
	}
	r.at = to
	return o
}

// refers reports whether there is a reference in a valid object.
func refers(o api.Object) bool { return len(value.Refs(o)) > 0 }

// op returns the operator whose word was read last.
func (r *reader) op(name string, args []api.Object) api.Op {
	switch name {
	case imageWord:
		if len(args) > 0 {
			give.Up(api.ErrForm)
		}
		return r.image()
	case dataWord, endWord, "R":
		give.Up(api.ErrForm)
	}
	return api.Op{Name: name, Args: args}
}

// image reads the rest of an inline image.
func (r *reader) image() api.Op {
	dict := r.dict()
	r.from = r.at
	if r.at == len(r.s) || !octet.White(r.s[r.at]) {
		give.Up(api.ErrForm)
	}
	from := r.at + 1
	to, ok := dataEnd(r.s, from)
	if !ok {
		r.from = len(r.s)
		give.Up(api.ErrEnd)
	}
	// The white-space byte before the word is read with it.
	r.at = to + 1 + len(endWord)
	return api.Op{Name: imageWord, Args: []api.Object{dict}, Data: r.s[from:to]}
}

// dict reads the pairs of an inline image, and the word after them.
func (r *reader) dict() api.Object {
	var pairs []api.Object
	met := map[string]bool{}
	for t := r.next(); !endsDict(t); t = r.next() {
		if met[t.S] {
			give.Up(api.ErrTwice)
		}
		if len(met) >= api.MaxKids {
			give.Up(api.ErrMany)
		}
		met[t.S] = true
		o := r.object(r.at)
		// The dictionary is one level more.
		if value.Depth(o) >= api.MaxDepth {
			give.Up(api.ErrDeep)
		}
		pairs = append(pairs, value.Name(t.S), o)
	}
	return give.Value(value.Dict(pairs...))
}

// endsDict reports whether t is the word after the pairs of an inline image, and gives up if it is no key of one either.
func endsDict(t api.Token) bool {
	switch {
	case t.Kind == api.TName:
		return false
	case t.Kind == api.TWord && t.S == dataWord:
		return true
	case t.Kind == api.TEnd:
		give.Up(api.ErrEnd)
	}
	give.Up(api.ErrForm)
	return false
}

// dataEnd returns the offset of the first white-space byte from offset at on after which the word that ends an inline image stands, and whether there is one.
func dataEnd(s string, at int) (int, bool) {
	for to := at; to < len(s); to++ {
		after := to + 1 + len(endWord)
		if octet.White(s[to]) && octet.Begins(s, endWord, to+1) && (after == len(s) || octet.White(s[after])) {
			return to, true
		}
	}
	return 0, false
}
