package show

import (
	"foliant/api"
	"foliant/give"
	"foliant/matrix"
	"foliant/value"
)

// beginWord is the only operator for a machine that is off.
const beginWord = "BT"

// operands are the operands of an operator that ops.Check accepts: the numbers among them, in units, and the last one of all.
type operands struct {
	nums []int64
	last api.Object
}

// operandsOf returns the operands of an operator, or gives up if a number is out of range.
func operandsOf(o api.Op) operands {
	var a operands
	for _, arg := range o.Args {
		a.last = arg
		if arg.Kind != api.KInt && arg.Kind != api.KReal {
			continue
		}
		n, ok := value.Number(arg)
		if !ok {
			give.Up(api.ErrRange)
		}
		a.nums = append(a.nums, n)
	}
	return a
}

// matrix returns the matrix of six numbers.
func (a operands) matrix() api.Matrix {
	var n [6]int64
	copy(n[:], a.nums)
	return matrix.Of(n)
}

// An action executes an operator, or gives up.
type action func(w *writer, a operands)

// actionOf returns the action of an operator, or nil if it is not one of text.
func actionOf(name string) action {
	switch name {
	case beginWord:
		return func(w *writer, _ operands) { w.on = true }
	case "ET":
		return func(w *writer, _ operands) { w.Machine = *New() }
	case "Td", "TD":
		return func(w *writer, a operands) { w.move(a.nums[0], a.nums[1]) }
	case "T*":
		return func(w *writer, _ operands) { w.nextLine() }
	case "Tm":
		return func(w *writer, a operands) { w.set(a.matrix()) }
	case "Tj":
		return func(w *writer, a operands) { w.show(a.last.S) }
	case "'":
		return func(w *writer, a operands) { w.showBelow(a.last.S) }
	case "\"":
		return func(w *writer, a operands) {
			w.state.Text.Word, w.state.Text.Char = a.nums[0], a.nums[1]
			w.showBelow(a.last.S)
		}
	case "TJ":
		return func(w *writer, a operands) { w.showAll(a.last.Kids) }
	}
	return nil
}
