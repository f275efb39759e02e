package script

import "foliant/api"

// shape is how the steps of a kind are written: a word, and behind it the fields that have these letters as their names.
type shape struct {
	word   string
	fields string
}

// shapes has the shape of each kind, and none for kind 0.
var shapes = [...]shape{
	api.StepOpen:     {"open", "S"},
	api.StepNew:      {"new", "A"},
	api.StepPut:      {"put", "AS"},
	api.StepDrop:     {"drop", "A"},
	api.StepInsert:   {"insert", "AS"},
	api.StepRemove:   {"remove", "A"},
	api.StepMove:     {"move", "AB"},
	api.StepName:     {"name", "SA"},
	api.StepFill:     {"fill", "ST"},
	api.StepClean:    {"clean", ""},
	api.StepSave:     {"save", "A"},
	api.StepReopen:   {"reopen", ""},
	api.StepText:     {"text", "A"},
	api.StepFind:     {"find", "S"},
	api.StepCount:    {"count", ""},
	api.StepObject:   {"object", "A"},
	api.StepAudit:    {"audit", ""},
	api.StepSpoil:    {"spoil", "AB"},
	api.StepOutline:  {"outline", ""},
	api.StepFields:   {"fields", ""},
	api.StepContents: {"contents", "A"},
}

// mostTokens is how many tokens a line has at most: the word, and two fields.
const mostTokens = 3

// known reports whether there are steps of a kind.
func known(kind int) bool { return kind > 0 && kind < len(shapes) }

// kindOf returns the kind of the steps with a word, or 0 if there are none.
func kindOf(word string) int {
	for kind, s := range shapes {
		if s.word == word {
			return kind
		}
	}
	return 0
}

// visit passes the fields that a step of its kind has to number or text, in the order in which its line has them.
func visit(s *api.Step, number func(n *int), text func(t *string)) {
	if !known(s.Kind) {
		return
	}
	for _, letter := range shapes[s.Kind].fields {
		switch letter {
		case 'A':
			number(&s.A)
		case 'B':
			number(&s.B)
		case 'S':
			text(&s.S)
		case 'T':
			text(&s.T)
		}
	}
}
