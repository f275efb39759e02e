// Package lex splits text into tokens: see ../../shared/DOC.md and doc/03-lex.md.
package lex

import (
	"foliant/api"
	"foliant/octet"
)

// Next returns the next token of s from offset at.
func Next(s string, at int) (api.Token, api.Errno) {
	if at < 0 || at > len(s) {
		return api.Token{}, api.ErrArg
	}
	at = octet.Skip(s, at)
	if at == len(s) {
		return api.Token{Kind: api.TEnd, At: at, To: at}, api.OK
	}
	switch s[at] {
	case '[', ']', '{', '}':
		return mark(s, at, at+1)
	case '<':
		if octet.Begins(s, "<<", at) {
			return mark(s, at, at+2)
		}
		return digits(s, at)
	case '>':
		if octet.Begins(s, ">>", at) {
			return mark(s, at, at+2)
		}
		return api.Token{}, api.ErrForm
	case ')':
		return api.Token{}, api.ErrForm
	case '(':
		return literal(s, at)
	case '/':
		return name(s, at)
	}
	return regular(s, at)
}

// Upto returns up to most tokens of s from offset at.
func Upto(s string, at, most int) ([]api.Token, api.Fault) {
	if at < 0 || at > len(s) {
		return nil, api.Fault{Err: api.ErrArg}
	}
	var list []api.Token
	for range most {
		t, e := Next(s, at)
		if e != api.OK {
			return nil, api.Fault{At: octet.Skip(s, at), Err: e}
		}
		if t.Kind == api.TEnd {
			break
		}
		list = append(list, t)
		at = t.To
	}
	return list, api.Fault{}
}

// All returns all tokens of s.
func All(s string) ([]api.Token, api.Fault) {
	list, f := Upto(s, 0, api.MaxFile)
	if len(list) < api.MaxFile {
		return list, f
	}
	more, f := Upto(s, list[len(list)-1].To, 1)
	if f.Err != api.OK {
		return nil, f
	}
	if len(more) > 0 {
		return nil, api.Fault{At: more[0].At, Err: api.ErrMany}
	}
	return list, api.Fault{}
}
