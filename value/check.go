package value

import (
	"strings"

	"foliant/api"
)

// Check returns the first error of o and the objects in it.
func Check(o api.Object) api.Errno { return checkAt(o, 1) }

// checkAt checks an object at the given depth, and then its kids.
func checkAt(o api.Object, depth int) api.Errno {
	if e := examine(o, depth); e != api.OK {
		return e
	}
	for _, kid := range o.Kids {
		if e := checkAt(kid, depth+1); e != api.OK {
			return e
		}
	}
	return api.OK
}

// examine checks an object at the given depth, but for its kids.
func examine(o api.Object, depth int) api.Errno {
	switch {
	case depth > api.MaxDepth:
		return api.ErrDeep
	case !bare(o), o.Kind == api.KStream && depth > 1:
		return api.ErrKind
	case !inRange(o):
		return api.ErrRange
	case len(o.S) > longest(o.Kind):
		return api.ErrLong
	case len(o.Kids) > api.MaxKids:
		return api.ErrMany
	case o.Kind == api.KName && !isName(o.S), keyed(o) && !ordered(o):
		return api.ErrForm
	}
	return api.OK
}

// bare reports whether o has one of the ten kinds, and nothing in the fields that its kind does not use.
func bare(o api.Object) bool {
	switch o.Kind {
	case api.KNull:
	case api.KBool, api.KInt, api.KReal:
		o.N = 0
	case api.KString, api.KName:
		o.S = ""
	case api.KArray:
		o.Kids = nil
	case api.KDict:
		o.Keys, o.Kids = nil, nil
	case api.KRef:
		o.N, o.G = 0, 0
	case api.KStream:
		o.Keys, o.Kids, o.S = nil, nil, ""
	default:
		return false
	}
	return o.N == 0 && o.G == 0 && o.S == "" && len(o.Keys) == 0 && len(o.Kids) == 0
}

// inRange reports whether the numbers of o are in the range of its kind.
func inRange(o api.Object) bool {
	switch o.Kind {
	case api.KBool:
		return o.N == 0 || o.N == 1
	case api.KInt:
		return o.N >= -api.MaxInt && o.N <= api.MaxInt
	case api.KReal:
		return o.N >= -api.MaxFix && o.N <= api.MaxFix
	case api.KRef:
		return o.N >= 1 && o.N <= api.MaxNum && o.G >= 0 && o.G <= api.MaxGen
	}
	return true
}

// longest returns how many bytes an object of a kind may have.
func longest(kind int) int {
	switch kind {
	case api.KString:
		return api.MaxString
	case api.KName:
		return api.MaxName
	case api.KStream:
		return api.MaxData
	}
	return 0
}

// keyed reports whether o is a dictionary or a stream.
func keyed(o api.Object) bool { return o.Kind == api.KDict || o.Kind == api.KStream }

// isName reports whether s can stand in a name.
func isName(s string) bool { return len(s) <= api.MaxName && !strings.Contains(s, "\x00") }

// ordered reports whether the entries of a dictionary or stream are as they must be.
func ordered(o api.Object) bool {
	if len(o.Keys) != len(o.Kids) {
		return false
	}
	for i, key := range o.Keys {
		if !isName(key) || i > 0 && o.Keys[i-1] >= key || o.Kids[i].Kind == api.KNull {
			return false
		}
		if o.Kind == api.KStream && key == "Length" {
			return false
		}
	}
	return true
}
