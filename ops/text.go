package ops

import (
	"strings"

	"foliant/api"
	"foliant/give"
	"foliant/lex"
	"foliant/plain"
	"foliant/value"
	"foliant/write"
)

// Text returns the content stream of the operators of l.
func Text(l []api.Op) (string, api.Errno) {
	if len(l) > api.MaxOps {
		return "", api.ErrMany
	}
	return give.Caught(func() string {
		var all strings.Builder
		for _, o := range l {
			checkValid(o)
			if o.Name == imageWord {
				all.WriteString(imageText(o))
			} else {
				all.WriteString(text(o))
			}
		}
		return all.String()
	})
}

// text returns the text of an operator that is no inline image.
func text(o api.Op) string {
	var parts []string
	for _, a := range o.Args {
		parts = append(parts, give.Value(write.Text(a)))
	}
	return plain.Join(append(parts, o.Name)...) + "\n"
}

// imageText returns the text of an inline image.
func imageText(o api.Op) string {
	parts := []string{imageWord}
	dict := o.Args[0]
	for i, key := range dict.Keys {
		parts = append(parts, give.Value(plain.Name(key)), give.Value(write.Text(dict.Kids[i])))
	}
	return plain.Join(append(parts, dataWord)...) + "\n" + o.Data + "\n" + endWord + "\n"
}

// checkValid gives up unless an operator is valid.
func checkValid(o api.Op) {
	if o.Name == imageWord && !isImage(o) || o.Name != imageWord && !isPlain(o) {
		give.Up(api.ErrForm)
	}
	for _, a := range o.Args {
		give.UpOn(value.Check(a))
	}
	for _, a := range o.Args {
		if a.Kind == api.KStream || refers(a) {
			give.Up(api.ErrKind)
		}
	}
}

// isImage reports whether an inline image has a dictionary alone, and data that are read as a whole.
func isImage(o api.Op) bool {
	_, cut := dataEnd(o.Data, 0)
	return len(o.Args) == 1 && o.Args[0].Kind == api.KDict && !cut
}

// isPlain reports whether an operator that is no inline image has a name that is read as such, operands that are not too many, and no data.
func isPlain(o api.Op) bool {
	switch o.Name {
	case "R", dataWord, endWord:
		return false
	}
	t, e := lex.Next(o.Name, 0)
	return e == api.OK && isWord(t) && t.S == o.Name && len(o.Args) <= api.MaxArgs && o.Data == ""
}
