package filter

import (
	"foliant/api"
	"foliant/ascii"
	"foliant/give"
	"foliant/predict"
	"foliant/zlib"
)

const flateName = "FlateDecode"

// level is the one of zlib.Wrap.
const level = 2

// coder is a filter: its full name, and what encodes and decodes data, or gives up.
type coder struct {
	name           string
	encode, decode func(p api.Parms, data string) string
}

// find returns the filter of a full or short name.
func find(name string) (c coder, ok bool) {
	switch name {
	case "AHx":
		fallthrough
	case "ASCIIHexDecode":
		return simple("ASCIIHexDecode", ascii.Hex, ascii.Unhex), true
	case "A85":
		fallthrough
	case "ASCII85Decode":
		return simple("ASCII85Decode", ascii.Five, ascii.Unfive), true
	case "RL":
		fallthrough
	case "RunLengthDecode":
		return simple("RunLengthDecode", ascii.Run, ascii.Unrun), true
	case "Fl":
		fallthrough
	case flateName:
		return coder{flateName, deflated, inflated}, true
	}
	return coder{}, false
}

// known returns the filter of a name, or gives up if there is none.
func known(name string) coder {
	c, ok := find(name)
	if !ok {
		give.Up(api.ErrFilter)
	}
	return c
}

// simple returns a filter that has no parameters.
func simple(name string, encode func(s string) string, decode func(s string, most int) (string, api.Errno)) coder {
	return coder{
		name: name,
		encode: func(_ api.Parms, data string) string {
			if len(data) > api.MaxData {
				give.Up(api.ErrLong)
			}
			return encode(data)
		},
		decode: func(_ api.Parms, data string) string { return give.Value(decode(data, api.MaxData)) },
	}
}

func deflated(p api.Parms, data string) string {
	return give.Value(zlib.Wrap(give.Value(predict.Encode(p, data)), level))
}

func inflated(p api.Parms, data string) string {
	// Checked first, since predict.Decode would tell only after the errors of zlib.Unwrap.
	give.UpOn(predict.Check(p))
	return give.Value(predict.Decode(p, give.Value(zlib.Unwrap(data, api.MaxData))))
}
