package path

import (
	"foliant/api"
	"foliant/fix"
	"foliant/give"
	"foliant/matrix"
)

// pen has the numbers of an operator, the matrix that transforms its points, and the current point. Its methods give up with the error of a point that can't be told.
type pen struct {
	nums  []int64
	under api.Matrix
	from  api.Point
}

// at returns the point at x and y, transformed.
func (p pen) at(x, y int64) api.Point {
	return give.Value(matrix.Apply(p.under, api.Point{X: x, Y: y}))
}

// point returns the operator's point i, transformed.
func (p pen) point(i int) api.Point { return p.at(p.nums[2*i], p.nums[2*i+1]) }

// A drawing makes the segments that an operator appends, or gives up.
type drawing func(p pen) []api.Seg

// drawingOf returns the drawing of an operator, or nil if it builds no path.
func drawingOf(name string) drawing {
	switch name {
	case "m":
		return func(p pen) []api.Seg { return []api.Seg{{Kind: api.SegMove, R: p.point(0)}} }
	case "l":
		return func(p pen) []api.Seg { return []api.Seg{{Kind: api.SegLine, R: p.point(0)}} }
	case "c":
		return func(p pen) []api.Seg { return curve(p.point(0), p.point(1), p.point(2)) }
	case "v":
		return func(p pen) []api.Seg { return curve(p.from, p.point(0), p.point(1)) }
	case "y":
		return func(p pen) []api.Seg {
			control, end := p.point(0), p.point(1)
			return curve(control, end, end)
		}
	case "h":
		return func(pen) []api.Seg { return []api.Seg{{Kind: api.SegClose}} }
	case "re":
		return rectangle
	case "W", "W*":
		return func(pen) []api.Seg { return nil }
	}
	return nil
}

// begins reports whether an operator can be the first of a path.
func begins(name string) bool { return name == "m" || name == "re" }

// clips reports whether an operator makes the next painting operator clip.
func clips(name string) bool { return name == "W" || name == "W*" }

// curve returns a curve as the only segment of a list.
func curve(p, q, r api.Point) []api.Seg {
	return []api.Seg{{Kind: api.SegCurve, P: p, Q: q, R: r}}
}

// rectangle makes the segments of a corner, a width and a height.
func rectangle(p pen) []api.Seg {
	x, y := p.nums[0], p.nums[1]
	far := give.Value(fix.Sum(x, p.nums[2]))
	high := give.Value(fix.Sum(y, p.nums[3]))
	return []api.Seg{
		{Kind: api.SegMove, R: p.at(x, y)},
		{Kind: api.SegLine, R: p.at(far, y)},
		{Kind: api.SegLine, R: p.at(far, high)},
		{Kind: api.SegLine, R: p.at(x, high)},
		{Kind: api.SegClose},
	}
}

// brush is what a painting operator does to a path.
type brush struct {
	how    int
	closes bool
}

// brushes returns the brushes of the painting operators by their names.
func brushes() map[string]brush {
	const both = api.PaintFill | api.PaintStroke
	return map[string]brush{
		"S":  {how: api.PaintStroke},
		"s":  {how: api.PaintStroke, closes: true},
		"f":  {how: api.PaintFill},
		"F":  {how: api.PaintFill},
		"f*": {how: api.PaintFill | api.PaintOdd},
		"B":  {how: both},
		"B*": {how: both | api.PaintOdd},
		"b":  {how: both, closes: true},
		"b*": {how: both | api.PaintOdd, closes: true},
		"n":  {},
	}
}
