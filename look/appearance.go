package look

import (
	"foliant/api"
	"foliant/fix"
	"foliant/give"
	"foliant/ops"
	"foliant/value"
)

// The keys that lead from an item to its appearance, and on to what that needs.
const (
	appearanceKey = "AP"
	normalKey     = "N"
	resourcesKey  = "Resources"
	fontsKey      = "Font"
	fontKey       = "Helv"
)

const (
	// usualSize is the font size where the box is high enough for it.
	usualSize = 12 * api.One
	// margin is how far from the left side of the box a text begins.
	margin = 2 * api.One
)

// checkedValue is that of a check box which shows checkMark.
const (
	checkedValue = "Yes"
	checkMark    = "X"
)

// written returns the operators that show a text halfway up a box.
func written(text string, height, size int64) (string, api.Errno) {
	// No error, since neither number is far out of range.
	y, _ := fix.Near(height-size, 2)
	return ops.Text([]api.Op{
		op("BMC", value.Name("Tx")),
		op("q"),
		op("BT"),
		op("Tf", value.Name(fontKey), value.Real(size)),
		op("g", value.Int(0)),
		op("Td", value.Real(margin), value.Real(y)),
		op("Tj", value.String(text)),
		op("ET"),
		op("Q"),
		op("EMC"),
	})
}

// op returns an operator.
func op(name string, args ...api.Object) api.Op { return api.Op{Name: name, Args: args} }

// displayed returns the text that a field shows.
func displayed(f api.Field) string {
	switch {
	case f.Kind != api.FieldCheck:
		return f.Value
	case f.Value == checkedValue:
		return checkMark
	}
	return ""
}

// appearance returns the stream that shows a text in a box, or gives up.
func appearance(text string, box api.Rect) api.Object {
	width, height := box.X1-box.X0, box.Y1-box.Y0
	content := give.Value(Content(text, box, max(1, min(usualSize, height))))
	if outside(width, height) {
		give.Up(api.ErrRange)
	}
	font := dict(
		value.Name("BaseFont"), value.Name("Helvetica"),
		value.Name("Subtype"), value.Name("Type1"),
		value.Name("Type"), value.Name("Font"))
	return give.Value(value.Stream(dict(
		value.Name("BBox"), value.Array(value.Real(0), value.Real(0), value.Real(width), value.Real(height)),
		value.Name(resourcesKey), dict(value.Name(fontsKey), dict(value.Name(fontKey), font)),
		value.Name("Subtype"), value.Name("Form"),
		value.Name("Type"), value.Name("XObject")), content))
}

// dict returns the dictionary of keys and values, which take turns.
func dict(pairs ...api.Object) api.Object { return give.Value(value.Dict(pairs...)) }
