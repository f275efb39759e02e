package state

import (
	"foliant/api"
	"foliant/give"
	"foliant/matrix"
)

// A change applies an operator that ops.Check accepts, with its operands, to a machine, or gives up.
type change func(x *Machine, a operands)

// changeOf returns what an operator changes, or nil if it changes no graphics state.
func changeOf(name string) change {
	switch name {
	case "q":
		return func(x *Machine, _ operands) { x.save() }
	case "Q":
		return func(x *Machine, _ operands) { x.restore() }
	case "cm":
		return func(x *Machine, a operands) { x.now.Ctm = give.Value(matrix.Mul(a.matrix(), x.now.Ctm)) }
	case "w":
		return func(x *Machine, a operands) { x.now.Width = a.amount(0) }
	case "M":
		return func(x *Machine, a operands) { x.now.Miter = a.amount(0) }
	case "J":
		return func(x *Machine, a operands) { x.now.Cap = a.choice(lastStyle) }
	case "j":
		return func(x *Machine, a operands) { x.now.Join = a.choice(lastStyle) }
	case "d":
		return func(x *Machine, a operands) { x.now.Dash, x.now.Phase = a.dash(), a.amount(1) }
	case "i", "ri", "gs":
		return func(*Machine, operands) {}
	case "g":
		return func(x *Machine, a operands) { x.now.Fill = a.color(api.SpaceGray) }
	case "G":
		return func(x *Machine, a operands) { x.now.Stroke = a.color(api.SpaceGray) }
	case "rg":
		return func(x *Machine, a operands) { x.now.Fill = a.color(api.SpaceRGB) }
	case "RG":
		return func(x *Machine, a operands) { x.now.Stroke = a.color(api.SpaceRGB) }
	case "k":
		return func(x *Machine, a operands) { x.now.Fill = a.color(api.SpaceCMYK) }
	case "K":
		return func(x *Machine, a operands) { x.now.Stroke = a.color(api.SpaceCMYK) }
	}
	return textChangeOf(name)
}

// textChangeOf returns what an operator changes in the text state, or nil if it changes nothing there.
func textChangeOf(name string) change {
	switch name {
	case "Tc":
		return func(x *Machine, a operands) { x.now.Text.Char = a.number(0) }
	case "Tw":
		return func(x *Machine, a operands) { x.now.Text.Word = a.number(0) }
	case "Tz":
		return func(x *Machine, a operands) { x.now.Text.Scale = a.number(0) }
	case "TL":
		return func(x *Machine, a operands) { x.now.Text.Leading = a.number(0) }
	case "Ts":
		return func(x *Machine, a operands) { x.now.Text.Rise = a.number(0) }
	case "Tf":
		return func(x *Machine, a operands) { x.now.Text.Font, x.now.Text.Size = a[0].S, a.number(1) }
	case "Tr":
		return func(x *Machine, a operands) { x.now.Text.Mode = a.choice(lastMode) }
	}
	return nil
}

// save saves the current state.
func (x *Machine) save() {
	if len(x.saved) >= api.MaxSaved {
		give.Up(api.ErrMany)
	}
	x.saved = append(x.saved, x.now)
}

// restore makes the state that was saved last the current one.
func (x *Machine) restore() {
	last := len(x.saved) - 1
	if last < 0 {
		give.Up(api.ErrState)
	}
	x.now, x.saved = x.saved[last], x.saved[:last]
}
