package parse

import (
	"maps"
	"slices"

	"foliant/api"
	"foliant/give"
	"foliant/lex"
	"foliant/value"
)

// reader reads the objects of s from offset at on, and gives up with the first error.
type reader struct {
	s  string
	at int
}

// next reads the next token, which must not be the end of s.
func (r *reader) next() api.Token {
	t := give.Value(lex.Next(r.s, r.at))
	if t.Kind == api.TEnd {
		give.Up(api.ErrEnd)
	}
	r.at = t.To
	return t
}

// object reads the rest of the object whose first token is t, at the given depth.
func (r *reader) object(t api.Token, depth int) api.Object {
	if !begins(t) {
		give.Up(api.ErrForm)
	}
	if depth > api.MaxDepth {
		give.Up(api.ErrDeep)
	}
	switch t.Kind {
	case api.TInt:
		return r.integer(t)
	case api.TReal:
		return value.Real(t.N)
	case api.TString:
		return value.String(t.S)
	case api.TName:
		return value.Name(t.S)
	case api.TWord:
		return word(t.S)
	}
	if t.S == "[" {
		return r.array(depth)
	}
	return r.dict(depth)
}

// begins reports whether t can be the first token of an object.
func begins(t api.Token) bool {
	switch t.Kind {
	case api.TWord:
		return t.S == "true" || t.S == "false" || t.S == "null"
	case api.TMark:
		return t.S == "[" || t.S == "<<"
	}
	return true
}

// word returns what true, false or null stands for.
func word(s string) api.Object {
	if s == "null" {
		return value.Null()
	}
	return value.Bool(s == "true")
}

// integer reads the rest of a reference, or nothing if t does not begin one.
func (r *reader) integer(t api.Token) api.Object {
	if t.N >= 1 && t.N <= api.MaxNum {
		gen := r.peek(t)
		if gen.Kind == api.TInt && gen.N >= 0 && gen.N <= api.MaxGen {
			if last := r.peek(gen); last.Kind == api.TWord && last.S == "R" {
				r.at = last.To
				return value.Ref(int(t.N), int(gen.N))
			}
		}
	}
	return value.Int(t.N)
}

// peek returns the token after t without reading it: one that has an error is none that is looked for.
func (r *reader) peek(t api.Token) api.Token {
	t, _ = lex.Next(r.s, t.To)
	return t
}

// array reads the rest of an array at the given depth. The array takes in its elements as they are, since copies would be copied again by every array around them.
func (r *reader) array(depth int) api.Object {
	o := api.Object{Kind: api.KArray}
	for t := r.next(); !closes(t, "]"); t = r.next() {
		if begins(t) && len(o.Kids) == api.MaxKids {
			give.Up(api.ErrMany)
		}
		o.Kids = append(o.Kids, r.object(t, depth+1))
	}
	return o
}

// dict reads the rest of a dictionary at the given depth.
func (r *reader) dict(depth int) api.Object {
	entries := map[string]api.Object{}
	for t := r.next(); !closes(t, ">>"); t = r.next() {
		give.UpOn(keyError(t, entries))
		entries[t.S] = r.object(r.next(), depth+1)
	}
	o := api.Object{Kind: api.KDict}
	for _, key := range slices.Sorted(maps.Keys(entries)) {
		if entries[key].Kind != api.KNull {
			o.Keys = append(o.Keys, key)
			o.Kids = append(o.Kids, entries[key])
		}
	}
	return o
}

// keyError returns what is wrong with t as the next key of a dictionary that has the given entries.
func keyError(t api.Token, entries map[string]api.Object) api.Errno {
	if t.Kind != api.TName {
		return api.ErrForm
	}
	if _, ok := entries[t.S]; ok {
		return api.ErrTwice
	}
	if len(entries) == api.MaxKids {
		return api.ErrMany
	}
	return api.OK
}

// closes reports whether t is the given mark.
func closes(t api.Token, mark string) bool { return t.Kind == api.TMark && t.S == mark }
