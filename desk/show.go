package desk

import (
	"strconv"
	"strings"

	"foliant/api"
	"foliant/audit"
	"foliant/docs"
	"foliant/draw"
	"foliant/field"
	"foliant/give"
	"foliant/outline"
	"foliant/pages"
	"foliant/plain"
	"foliant/search"
	"foliant/write"
)

// shown returns the result of a step that tells of a document, or gives up.
func shown(d api.Doc, s api.Step) api.Answer {
	switch s.Kind {
	case api.StepText:
		return each(give.Value(search.Page(d, s.A)), words)
	case api.StepFind:
		return each(give.Value(search.All(d, s.S)), func(h search.Hit) string {
			return spaced(number(h.Page), number(h.Line), number(h.From), number(h.To))
		})
	case api.StepCount:
		return api.Answer{N: give.Value(pages.Count(d))}
	case api.StepObject:
		return object(d, s.A)
	case api.StepAudit:
		return each(audit.Doc(d), audit.Line)
	case api.StepOutline:
		return each(outline.Lines(give.Value(outline.Read(d))), func(title string) string { return title })
	case api.StepFields:
		return each(give.Value(field.Read(d)), func(f api.Field) string {
			return spaced(give.Value(plain.String(f.Name)), number(f.Kind), give.Value(plain.String(f.Value)))
		})
	default: // StepContents, the only one that is left
		return api.Answer{N: give.Value(draw.Steps(d, s.A))}
	}
}

// each returns a result with the line of each element of a list, and their number.
func each[T any](l []T, line func(T) string) api.Answer {
	a := api.Answer{N: len(l)}
	for _, v := range l {
		a.Lines = append(a.Lines, line(v))
	}
	return a
}

// words returns the words of a line of a page.
func words(l api.Line) string {
	var parts []string
	for _, w := range l.Words {
		parts = append(parts, w.S)
	}
	return spaced(parts...)
}

// object returns the result that tells of the item num.
func object(d api.Doc, num int) api.Answer {
	i, ok := docs.Get(d, num)
	if !ok {
		give.Up(api.ErrNone)
	}
	o, n := i.Obj, 0
	if o.Kind == api.KStream {
		o.Kind, o.S, n = api.KDict, "", len(o.S)
	}
	return api.Answer{N: n, Lines: []string{spaced(number(i.Gen), give.Value(write.Text(o)))}}
}

// spaced returns parts with a space between each two of them.
func spaced(parts ...string) string { return strings.Join(parts, " ") }

// number returns a number in decimal.
func number(n int) string { return strconv.Itoa(n) }
