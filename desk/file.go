package desk

import (
	"foliant/api"
	"foliant/catalog"
	"foliant/give"
	"foliant/linear"
	"foliant/load"
	"foliant/pack"
	"foliant/update"
	"foliant/whole"
)

// The forms in which a document is saved.
const (
	asTable = iota
	asPack
	asLinear
	asUpdate
)

// packLevel is how much the data of a file with object streams are encoded.
const packLevel = 2

// step performs a step, or gives up.
func (x *Desk) step(s api.Step) api.Answer {
	switch s.Kind {
	case api.StepOpen:
		return x.open(s.S)
	case api.StepReopen:
		return x.open(x.saved)
	case api.StepNew:
		x.doc, x.has = give.Value(catalog.New(s.A)), true
		return api.Answer{N: len(x.doc.Items)}
	case api.StepSpoil:
		x.spoil(s.A, s.B)
		return api.Answer{}
	}
	if !x.has {
		give.Up(api.ErrNone)
	}
	switch s.Kind {
	case api.StepSave:
		return x.save(s.A)
	case api.StepPut, api.StepDrop, api.StepInsert, api.StepRemove, api.StepMove, api.StepName, api.StepFill, api.StepClean:
		return x.edit(s)
	}
	return shown(x.doc, s)
}

// open opens a file.
func (x *Desk) open(file string) api.Answer {
	d, r, e := load.Open(file)
	give.UpOn(e)
	x.doc, x.has, x.saved = d, true, file
	a := api.Answer{N: len(d.Items)}
	if r.Repaired {
		a.Lines = []string{"repaired"}
	}
	return a
}

// save saves the document in a form.
func (x *Desk) save(form int) api.Answer {
	var e api.Errno
	switch form {
	case asTable:
		x.saved, e = whole.File(x.doc)
	case asPack:
		x.saved, e = pack.File(x.doc, packLevel)
	case asLinear:
		x.saved, e = linear.File(x.doc)
	case asUpdate:
		if x.saved == "" {
			give.Up(api.ErrNone)
		}
		x.saved, e = update.To(x.saved, x.doc)
	default:
		e = api.ErrArg
	}
	give.UpOn(e)
	// What the other forms look like is left open, and so is their length.
	if form == asPack || form == asUpdate {
		return api.Answer{}
	}
	return api.Answer{N: len(x.saved)}
}

// spoil changes a byte of the saved file.
func (x *Desk) spoil(at, to int) {
	if at >= len(x.saved) || to > 0xff {
		give.Up(api.ErrRange)
	}
	file := []byte(x.saved)
	file[at] = byte(to)
	x.saved = string(file)
}
