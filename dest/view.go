package dest

import "foliant/api"

// view is how a destination shows its page: its kind, and the letters of the numbers that it has, in the order of the array.
type view struct {
	kind    int
	letters string
}

// views returns the views by their names.
func views() map[string]view {
	return map[string]view{
		"XYZ":  {api.DestXYZ, "XYZ"},
		"Fit":  {api.DestFit, ""},
		"FitH": {api.DestFitH, "Y"},
		"FitV": {api.DestFitV, "X"},
		"FitR": {api.DestFitR, "XYZW"},
	}
}

// viewOf returns the view of a kind, its name, and whether there is one.
func viewOf(kind int) (view, string, bool) {
	for name, v := range views() {
		if v.kind == kind {
			return v, name, true
		}
	}
	return view{}, "", false
}

// number returns where a destination has the number with a letter.
func number(x *api.Dest, letter byte) *int64 {
	switch letter {
	case 'X':
		return &x.X
	case 'Y':
		return &x.Y
	case 'Z':
		return &x.Z
	}
	return &x.W
}
