package show

import (
	"foliant/api"
	"foliant/give"
	"foliant/matrix"
)

// place has the text matrix, by which the next glyph is placed, and the text line matrix, from which the next line is reached. Its methods give up with the error of a matrix that can't be told.
type place struct {
	text, line api.Matrix
}

// origin returns the place where text begins.
func origin() place { return place{text: matrix.One(), line: matrix.One()} }

// set makes m both of the matrices.
func (p *place) set(m api.Matrix) { p.text, p.line = m, m }

// move goes to the line whose beginning lies x and y away from that of the current one.
func (p *place) move(x, y int64) {
	p.set(give.Value(matrix.Mul(matrix.Move(x, y), p.line)))
}

// shift goes on by x on the line.
func (p *place) shift(x int64) {
	p.text = give.Value(matrix.Mul(matrix.Move(x, 0), p.text))
}
