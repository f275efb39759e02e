package state

import (
	"slices"

	"foliant/api"
	"foliant/give"
	"foliant/matrix"
	"foliant/value"
)

// The greatest numbers of a style of line caps or joins, and of a way to paint text.
const (
	lastStyle = 2
	lastMode  = 7
)

// operands are the operands of an operator, or the elements of an array. Their methods give up with the error of a number that is not as it must be.
type operands []api.Object

// number returns the operand i in units.
func (a operands) number(i int) int64 {
	n, ok := value.Number(a[i])
	if !ok {
		give.Up(api.ErrRange)
	}
	return n
}

// within returns the operand i, which must be from 0 to most.
func (a operands) within(i int, most int64) int64 {
	n := a.number(i)
	if n < 0 || n > most {
		give.Up(api.ErrRange)
	}
	return n
}

// amount returns the operand i, which must not be negative.
func (a operands) amount(i int) int64 { return a.within(i, api.MaxFix) }

// choice returns the first operand, which must be an integer from 0 to most.
func (a operands) choice(most int64) int {
	n := a.within(0, most*api.One)
	if n%api.One != 0 {
		give.Up(api.ErrRange)
	}
	return int(n / api.One)
}

// matrix returns the matrix of six operands.
func (a operands) matrix() api.Matrix {
	var n [6]int64
	for i := range n {
		n[i] = a.number(i)
	}
	return matrix.Of(n)
}

// color returns the color of a space with the operands as its components.
func (a operands) color(space int) api.Color {
	c := api.Color{Space: space}
	components := [...]*int64{&c.A, &c.B, &c.C, &c.D}
	for i := range a {
		*components[i] = a.within(i, api.One)
	}
	return c
}

// dash returns the numbers of the first operand, which is an array.
func (a operands) dash() []int64 {
	list := operands(a[0].Kids)
	if len(list) > api.MaxArgs {
		give.Up(api.ErrMany)
	}
	if slices.ContainsFunc(list, func(o api.Object) bool { return o.Kind != api.KInt && o.Kind != api.KReal }) {
		give.Up(api.ErrOp)
	}
	var dash []int64
	for i := range list {
		dash = append(dash, list.amount(i))
	}
	return dash
}
