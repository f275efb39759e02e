package filter_test

import (
	"fmt"
	"slices"
	"strings"
	"testing"

	"foliant/api"
	"foliant/filter"
	"foliant/sample"
	"foliant/value"
)

const (
	hex   = "ASCIIHexDecode"
	five  = "ASCII85Decode"
	run   = "RunLengthDecode"
	flate = "FlateDecode"
)

// brief shows the beginning of anything.
func brief(x any) string { return fmt.Sprintf("%.160s", fmt.Sprintf("%q", fmt.Sprint(x))) }

// shorts are the short names of the filters.
func shorts() map[string]string {
	return map[string]string{"AHx": hex, "A85": five, "RL": run, "Fl": flate}
}

// names returns the array of names.
func names(list ...string) api.Object {
	o := sample.Array()
	for _, name := range list {
		o.Kids = append(o.Kids, value.Name(name))
	}
	return o
}

// stream returns the stream with the values of Filter and DecodeParms, those that are given.
func stream(data string, values ...api.Object) api.Object {
	keys := []string{"Filter", "DecodeParms"}[:len(values)]
	return api.Object{Kind: api.KStream, Keys: keys, Kids: values, S: data}
}

// predictor returns the dictionary of parameters, without those that are 1.
func predictor(predictor, colors, columns int64) api.Object {
	o := sample.Dict("")
	for i, n := range []int64{colors, columns, predictor} {
		if n != 1 {
			o.Keys = append(o.Keys, []string{"Colors", "Columns", "Predictor"}[i])
			o.Kids = append(o.Kids, value.Int(n))
		}
	}
	return o
}

// plain returns the default parameters, so many times.
func plain(n int) []api.Parms {
	return slices.Repeat([]api.Parms{{Predictor: 1, Colors: 1, Columns: 1}}, n)
}

// checkOf holds an answer of Of against the wanted one, and the error of Decode too.
func checkOf(t *testing.T, o api.Object, wantNames []string, wantParms []api.Parms, wantErr api.Errno) {
	t.Helper()
	list, parms, e := filter.Of(o)
	if !slices.Equal(list, wantNames) || !slices.Equal(parms, wantParms) || e != wantErr {
		t.Errorf("Of(%s) = %v, %v, %d, want %v, %v, %d", brief(o), list, parms, e, wantNames, wantParms, wantErr)
	}
	if s, e := filter.Decode(o); wantErr != api.OK && (s != "" || e != wantErr) {
		t.Errorf("Decode(%s) = %s, %d, want %d", brief(o), brief(s), e, wantErr)
	}
}

// Promise 16.1.
func TestKnown(t *testing.T) {
	good := map[string]bool{}
	for short, full := range shorts() {
		good[short], good[full] = true, true
	}
	if len(good) != 8 {
		t.Errorf("%d names", len(good))
	}
	list := []string{"", " ", "ahx", "AHX", "Hex", "FL", "fl", "F", "LZW", "LZWDecode", "DCTDecode", "Crypt", "FlateDecod", "FlateDecode ", "/Fl", "Fl\x00", "ASCIIHex", "RunLength", "rl", "a85", "A86"}
	for name := range good {
		list = append(list, name, name+"x", "x"+name, name[1:], name[:len(name)-1], strings.ToLower(name), strings.ToUpper(name))
	}
	for _, name := range list {
		if filter.Known(name) != (good[name]) {
			t.Errorf("Known(%q) = %v", name, !good[name])
		}
	}
}

// Promise 16.2: the lists of filters.
func TestOfNames(t *testing.T) {
	checkOf(t, stream("x"), nil, nil, api.OK)
	checkOf(t, stream("x", names("AHx", "Fl")), []string{hex, flate}, plain(2), api.OK)
	checkOf(t, stream("x", names()), nil, nil, api.OK)
	for short, full := range shorts() {
		checkOf(t, stream("x", value.Name(short)), []string{full}, plain(1), api.OK)
		checkOf(t, stream("x", value.Name(full)), []string{full}, plain(1), api.OK)
		checkOf(t, stream("x", names(short)), []string{full}, plain(1), api.OK)
		checkOf(t, stream("x", names(full, short, full)), []string{full, full, full}, plain(3), api.OK)
	}
	checkOf(t, stream("x", names("RL", five, "A85", flate, "AHx", "AHx", run, "Fl")), []string{run, five, five, flate, hex, hex, run, flate}, plain(8), api.OK)
}

// Promise 16.2: the parameters.
func TestOfParms(t *testing.T) {
	null, up, tiff := value.Null(), predictor(12, 1, 7), predictor(2, 3, 4)
	asUp, asTiff, def := api.Parms{Predictor: 12, Colors: 1, Columns: 7}, api.Parms{Predictor: 2, Colors: 3, Columns: 4}, plain(1)[0]
	one, three := value.Name("Fl"), names("Fl", "AHx", "Fl")
	for _, c := range []struct {
		filters, parms api.Object
		want           []api.Parms
	}{
		{one, up, []api.Parms{asUp}}, {one, sample.Array(up), []api.Parms{asUp}}, {one, sample.Array(null), []api.Parms{def}}, {one, sample.Array(), []api.Parms{def}}, {one, sample.Dict(""), []api.Parms{def}},
		{three, up, []api.Parms{asUp, def, def}}, {three, sample.Array(tiff), []api.Parms{asTiff, def, def}}, {three, sample.Array(null, null, up), []api.Parms{def, def, asUp}}, {three, sample.Array(tiff, up, tiff), []api.Parms{asTiff, asUp, asTiff}}, {three, sample.Array(sample.Dict(""), up), []api.Parms{def, asUp, def}},
		{names(), sample.Array(), nil}, {one, predictor(15, 2, 4096), []api.Parms{{Predictor: 15, Colors: 2, Columns: 4096}}}, {one, predictor(1, 8192, 1), []api.Parms{{Predictor: 1, Colors: 8192, Columns: 1}}},
		{value.Name("AHx"), up, []api.Parms{asUp}}, {one, sample.Dict("BitsPerComponent Colors", value.Int(8), value.Int(2)), []api.Parms{{Predictor: 1, Colors: 2, Columns: 1}}}, {one, sample.Dict("Early K", value.Int(8), null), []api.Parms{def}},
	} {
		var want []string
		for range c.want {
			want = append(want, flate)
		}
		if len(want) == 3 {
			want[1] = hex
		}
		if c.filters.S == "AHx" {
			want[0] = hex
		}
		checkOf(t, stream("x", c.filters, c.parms), want, c.want, api.OK)
	}
	checkOf(t, api.Object{Kind: api.KStream, Keys: []string{"DecodeParms"}, Kids: []api.Object{sample.Array()}}, nil, nil, api.OK)
	list, parms, _ := filter.Of(stream("", three, up))
	list[0], parms[1] = "x", asTiff
	checkOf(t, stream("", three, up), []string{flate, hex, flate}, []api.Parms{asUp, def, def}, api.OK)
}

// others returns an object of each kind.
func others() []api.Object {
	return []api.Object{value.Null(), value.Bool(true), value.Int(1), value.Real(10000), value.String("Fl"), value.Name("Fl"), names("Fl"), sample.Dict("Filter", value.Name("Fl")), value.Ref(1, 0), stream("x", value.Name("Fl")), {Kind: 10}, {Kind: -1}}
}

// Promise 16.2: the errors of kinds.
func TestOfKinds(t *testing.T) {
	one := value.Name("Fl")
	for _, o := range others() {
		if o.Kind != api.KStream {
			checkOf(t, o, nil, nil, api.ErrKind)
			o.Keys, o.Kids = []string{"Filter"}, []api.Object{one}
			checkOf(t, o, nil, nil, api.ErrKind)
		}
	}
	for _, v := range others() {
		if v.Kind != api.KName {
			if v.Kind != api.KArray {
				checkOf(t, stream("", v), nil, nil, api.ErrKind)
			}
			checkOf(t, stream("", sample.Array(v)), nil, nil, api.ErrKind)
			checkOf(t, stream("", sample.Array(one, v)), nil, nil, api.ErrKind)
			checkOf(t, stream("", sample.Array(value.Name("?"), v)), nil, nil, api.ErrKind)
		}
		if v.Kind != api.KDict && v.Kind != api.KArray {
			checkOf(t, stream("", one, v), nil, nil, api.ErrKind)
			checkOf(t, api.Object{Kind: api.KStream, Keys: []string{"DecodeParms"}, Kids: []api.Object{v}}, nil, nil, api.ErrKind)
		}
		if v.Kind != api.KDict && v.Kind != api.KNull {
			checkOf(t, stream("", one, sample.Array(v)), nil, nil, api.ErrKind)
			checkOf(t, stream("", one, sample.Array(value.Null(), v)), nil, nil, api.ErrKind)
		}
		for _, key := range []string{"Predictor", "Colors", "Columns"} {
			if v.Kind != api.KInt {
				checkOf(t, stream("", one, sample.Dict(key, v)), nil, nil, api.ErrKind)
				checkOf(t, stream("", one, sample.Array(sample.Dict(key, v))), nil, nil, api.ErrKind)
				checkOf(t, stream("", one, sample.Array(sample.Dict(""), sample.Dict(key, v))), nil, nil, api.ErrKind)
			}
		}
		checkOf(t, stream("", one, sample.Dict("BitsPerComponent", v)), nil, nil, api.ErrArg)
	}
}

// Promise 16.2: the other errors, and which comes first.
func TestOfErrors(t *testing.T) {
	one, bad, null := value.Name("Fl"), value.Name("LZWDecode"), value.Null()
	eight := []string{"Fl", "AHx", "A85", "RL", "Fl", "AHx", "A85", "RL"}
	bits := func(n int64) api.Object { return sample.Dict("BitsPerComponent", value.Int(n)) }
	checkOf(t, stream("", names(append(eight, "Fl")...)), nil, nil, api.ErrMany)
	checkOf(t, stream("", names(append(eight, "?")...), value.Int(1)), nil, nil, api.ErrMany)
	checkOf(t, stream("", sample.Array(append(names(eight...).Kids, value.Int(1))...)), nil, nil, api.ErrKind)
	checkOf(t, stream("", names(eight[:7]...), sample.Array(slices.Repeat([]api.Object{null}, 7)...)), []string{flate, hex, five, run, flate, hex, five}, plain(7), api.OK)
	for _, c := range []struct {
		filters, parms api.Object
		want           api.Errno
	}{
		{bad, value.Int(1), api.ErrFilter}, {names("Fl", "?"), sample.Array(null, null, null), api.ErrFilter}, {names("", "Fl"), sample.Dict(""), api.ErrFilter}, {value.Name("fl"), sample.Dict(""), api.ErrFilter},
		{names(), sample.Dict(""), api.ErrArg}, {names(), sample.Array(null), api.ErrArg}, {names(), sample.Array(sample.Dict("")), api.ErrArg}, {one, sample.Array(null, null), api.ErrArg}, {names(eight...), sample.Array(slices.Repeat([]api.Object{null}, 9)...), api.ErrArg}, {names("Fl", "Fl"), sample.Array(sample.Dict(""), null, sample.Dict("")), api.ErrArg},
		{one, sample.Array(null, value.Int(1)), api.ErrKind}, {one, sample.Array(sample.Dict("Colors", value.Real(1)), null), api.ErrKind}, {names(), sample.Dict("Colors", null), api.ErrKind},
		{one, bits(1), api.ErrArg}, {one, bits(16), api.ErrArg}, {one, bits(-8), api.ErrArg}, {one, sample.Dict("BitsPerComponent", value.Real(80000)), api.ErrArg}, {one, sample.Dict("BitsPerComponent", null), api.ErrArg}, {one, sample.Array(bits(1)), api.ErrArg}, {names("Fl", "Fl"), sample.Array(null, bits(4)), api.ErrArg}, {one, sample.Dict("BitsPerComponent Colors", value.Int(1), null), api.ErrKind},
		{one, predictor(3, 1, 1), api.ErrArg}, {one, predictor(0, 1, 1), api.ErrArg}, {one, predictor(12, 0, 1), api.ErrArg}, {one, predictor(1, 1, 8193), api.ErrArg}, {one, predictor(12, 2, 4097), api.ErrArg}, {one, predictor(12, -1, 5), api.ErrArg}, {one, predictor(1<<62, 1<<62, 1<<62), api.ErrArg}, {one, predictor(1, 1<<32, 1<<32), api.ErrArg},
		{value.Name("AHx"), predictor(3, 1, 1), api.ErrArg}, {names("AHx", "Fl"), sample.Array(null, predictor(9, 1, 1)), api.ErrArg}, {names("AHx", "RL"), sample.Array(null, predictor(9, 1, 1)), api.ErrArg},
	} {
		checkOf(t, stream("", c.filters, c.parms), nil, nil, c.want)
	}
	checkOf(t, api.Object{Kind: api.KStream, Keys: []string{"DecodeParms"}, Kids: []api.Object{sample.Dict("")}}, nil, nil, api.ErrArg)
}

// Promise 16.2: nothing else of a stream is looked at.
func TestOfInvalid(t *testing.T) {
	odd := api.Object{Kind: 77, N: -1, S: "x", Kids: others()}
	name := api.Object{Kind: api.KName, S: "Fl", N: 3, G: -4, Kids: others()}
	parms := api.Object{Kind: api.KDict, S: "x", Keys: []string{"Predictor", "A\x00", "", "Colors"}, Kids: []api.Object{{Kind: api.KInt, N: 2, S: "y"}, odd, value.Null(), {Kind: api.KInt, N: 3, G: 1}}}
	o := api.Object{Kind: api.KStream, N: 5, G: -5, S: strings.Repeat("x", api.MaxData+1), Keys: []string{"Z", "Filter", "", "DecodeParms", "Length", "Filter"}, Kids: []api.Object{odd, name, odd, parms, odd, odd}}
	checkOf(t, o, []string{flate}, []api.Parms{{Predictor: 2, Colors: 3, Columns: 1}}, api.OK)
	o.Keys[1] = "Fitler"
	checkOf(t, o, nil, nil, api.ErrKind)
	o.Kids = o.Kids[:3]
	checkOf(t, o, nil, nil, api.OK)
	if s, e := filter.Decode(o); s != o.S || e != api.OK {
		t.Errorf("Decode of a stream without filters = %s, %d", brief(s), e)
	}
	deep := value.Int(1)
	for range 60000 {
		deep = sample.Array(deep)
	}
	checkOf(t, stream("", value.Name("Fl"), sample.Array(deep)), nil, nil, api.ErrKind)
	checkOf(t, stream("", value.Name("Fl"), sample.Dict("X", deep)), []string{flate}, plain(1), api.OK)
}
