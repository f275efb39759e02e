package filter_test

import (
	"slices"
	"strings"
	"testing"

	"foliant/api"
	"foliant/filter"
	"foliant/sample"
	"foliant/value"
)

// Promise 16.4: what the keys have.
func TestEncodeKeys(t *testing.T) {
	null, def, up := value.Null(), plain(1)[0], api.Parms{Predictor: 12, Colors: 1, Columns: 3}
	asDict := func(predictor, colors, columns int64) api.Object {
		return sample.Dict("Colors Columns Predictor", value.Int(colors), value.Int(columns), value.Int(predictor))
	}
	wide := api.Parms{Predictor: 1, Colors: 2, Columns: 1}
	for i, c := range []struct {
		names          []string
		parms          []api.Parms
		filters, value api.Object
	}{
		{nil, nil, null, null}, {[]string{}, []api.Parms{}, null, null}, {[]string{"AHx"}, nil, value.Name(hex), null}, {[]string{hex}, []api.Parms{def}, value.Name(hex), null}, {[]string{"Fl"}, nil, value.Name(flate), null}, {[]string{"Fl"}, []api.Parms{up}, value.Name(flate), asDict(12, 1, 3)}, {[]string{"Fl"}, []api.Parms{wide}, value.Name(flate), asDict(1, 2, 1)},
		{[]string{"AHx", "Fl"}, nil, names(hex, flate), null}, {[]string{"AHx", "Fl"}, []api.Parms{def, def}, names(hex, flate), null}, {[]string{"AHx", "Fl"}, []api.Parms{def, up}, names(hex, flate), sample.Array(null, asDict(12, 1, 3))}, {[]string{"Fl", "A85"}, []api.Parms{wide, def}, names(flate, five), sample.Array(asDict(1, 2, 1), null)}, {[]string{"RL", "RL"}, nil, names(run, run), null}, {[]string{"Fl", flate}, []api.Parms{wide, up}, names(flate, flate), sample.Array(asDict(1, 2, 1), asDict(12, 1, 3))},
	} {
		for _, o := range []api.Object{sample.Dict("A Filter Z", value.Int(1), value.Int(2), value.Int(3)), {Kind: api.KStream, Keys: []string{"A", "DecodeParms", "Z"}, Kids: []api.Object{value.Int(1), value.Int(2), value.Int(3)}, S: "old"}} {
			got, e := filter.Encode(o, c.names, c.parms, "abcdef")
			raw := "abcdef"
			for j, name := range slices.Backward(c.names) {
				p := def
				if len(c.parms) > 0 {
					p = c.parms[j]
				}
				raw, _ = filter.One(name, p, raw)
			}
			want := api.Object{Kind: api.KStream, Keys: []string{"A"}, Kids: []api.Object{value.Int(1)}, S: raw}
			if c.value.Kind != api.KNull {
				want.Keys, want.Kids = append(want.Keys, "DecodeParms"), append(want.Kids, c.value)
			}
			if c.filters.Kind != api.KNull {
				want.Keys, want.Kids = append(want.Keys, "Filter"), append(want.Kids, c.filters)
			}
			want.Keys, want.Kids = append(want.Keys, "Z"), append(want.Kids, value.Int(3))
			checkObject(t, "Encode "+brief(i), got, e, want, api.OK)
		}
	}
}

// Promises 16.2, 16.4 and 16.5: what is encoded is decoded.
func TestRoundTrip(t *testing.T) {
	all := []string{"AHx", "A85", "RL", "Fl", hex, five, run, flate}
	def := plain(1)[0]
	for i := range 400 {
		var list, full []string
		var parms []api.Parms
		// Not too many, since some of them make the data longer.
		for j := range i % 5 {
			name := all[(i/5+3*j+j*j)%8]
			p := def
			if strings.HasPrefix(name, "Fl") && j == i%5-1 {
				p = []api.Parms{def, {Predictor: 15, Colors: 3, Columns: 4}, {Predictor: 2, Colors: 1, Columns: 2}, {Predictor: 11, Colors: 2, Columns: 3}}[i/7%4]
			}
			list, parms = append(list, name), append(parms, p)
			if long, ok := shorts()[name]; ok {
				name = long
			}
			full = append(full, name)
		}
		s := texts()[i%6]
		o, e := filter.Encode(sample.Dict("K", value.Int(1)), list, parms, s)
		if e != api.OK || value.Check(o) != api.OK {
			t.Fatalf("Encode with %v, %v = %d", list, parms, e)
		}
		checkOf(t, o, full, parms, api.OK)
		got, e := filter.Decode(o)
		checkText(t, "Decode", got, e, s, api.OK)
		if k, _ := value.Get(o, "K"); k.N != 1 {
			t.Errorf("the key K is lost")
		}
	}
}

// Promise 16.4: the errors, and which comes first.
func TestEncodeErrors(t *testing.T) {
	none, dict, broken := api.Object{}, sample.Dict(""), sample.Dict("A", value.Null())
	def, up, bad := plain(1)[0], api.Parms{Predictor: 12, Colors: 1, Columns: 3}, api.Parms{Predictor: 3, Colors: 1, Columns: 1}
	nine := slices.Repeat([]string{"AHx"}, 9)
	most := strings.Repeat("m", api.MaxData)
	for i, c := range []struct {
		o     api.Object
		names []string
		parms []api.Parms
		data  string
		e     api.Errno
	}{
		{value.Null(), append(nine, "?"), nil, "", api.ErrKind}, {dict, nine, nil, "", api.ErrMany}, {dict, append([]string{"?"}, nine...), []api.Parms{bad}, most + "m", api.ErrMany}, {dict, []string{"AHx", "?"}, []api.Parms{bad}, most + "m", api.ErrFilter}, {dict, []string{"?", "AHx"}, nil, "", api.ErrFilter}, {dict, []string{""}, nil, "", api.ErrFilter},
		{dict, nil, plain(1), "", api.ErrArg}, {dict, []string{"Fl"}, plain(2), most + "m", api.ErrArg}, {dict, []string{"Fl", "Fl"}, plain(1), "", api.ErrArg}, {dict, []string{"AHx"}, []api.Parms{up}, most + "m", api.ErrArg}, {dict, []string{"AHx"}, []api.Parms{{}}, "", api.ErrArg}, {dict, []string{"A85"}, []api.Parms{{Predictor: 1, Colors: 1, Columns: 2}}, "", api.ErrArg}, {dict, []string{"RL"}, []api.Parms{{Predictor: 1, Colors: 2, Columns: 1}}, "", api.ErrArg}, {dict, []string{hex}, []api.Parms{{Predictor: 2, Colors: 1, Columns: 1}}, "", api.ErrArg}, {dict, []string{"Fl", "RL"}, []api.Parms{def, up}, "", api.ErrArg},
		{dict, []string{"Fl"}, []api.Parms{bad}, most + "m", api.ErrArg}, {dict, []string{"Fl"}, []api.Parms{{}}, "", api.ErrArg}, {dict, []string{"Fl", "Fl"}, []api.Parms{bad, up}, "abcd", api.ErrRow}, {dict, []string{"Fl", "Fl"}, []api.Parms{up, bad}, "abcd", api.ErrArg}, {dict, []string{"Fl"}, []api.Parms{up}, "abcd", api.ErrRow}, {dict, []string{"Fl"}, nil, most + "m", api.ErrLong}, {dict, []string{"AHx"}, nil, most + "m", api.ErrLong},
		{dict, []string{"AHx"}, nil, most, api.ErrLong}, {dict, []string{"RL"}, nil, strings.Repeat("mn", api.MaxData/2), api.ErrLong}, {dict, []string{"Fl", "AHx"}, nil, most, api.ErrLong}, {dict, nil, nil, most + "m", api.ErrLong}, {dict, []string{"AHx", "RL"}, nil, most, api.OK}, {dict, nil, nil, most, api.OK},
		{broken, nil, nil, most + "m", api.ErrForm}, {broken, []string{"AHx"}, nil, most, api.ErrForm}, {broken, []string{"AHx"}, nil, "", api.ErrForm}, {sample.Broad(api.MaxKids), []string{"AHx"}, nil, "", api.ErrMany}, {sample.Broad(api.MaxKids), nil, nil, "", api.OK}, {sample.Broad(api.MaxKids - 1), []string{"Fl"}, []api.Parms{up}, "abc", api.ErrMany}, {sample.Broad(api.MaxKids - 1), []string{"Fl"}, nil, "abc", api.OK}, {sample.Broad(api.MaxKids - 2), []string{"Fl"}, []api.Parms{up}, "abc", api.OK},
	} {
		got, e := filter.Encode(c.o, c.names, c.parms, c.data)
		if e != c.e || e != api.OK && !value.Same(got, none) {
			t.Errorf("Encode %d = %s, %d, want %d", i, brief(got), e, c.e)
		}
		if e != api.OK {
			continue
		}
		s, e := filter.Decode(got)
		checkText(t, "Decode", s, e, c.data, api.OK)
	}
}

// Promise 16.4: an error of the filters comes before one of the object, which is looked at last.
func TestEncodeOrder(t *testing.T) {
	broken := sample.Dict("A", value.Null())
	for want, list := range map[api.Errno][]string{api.ErrMany: slices.Repeat([]string{"AHx"}, 9), api.ErrFilter: {"?"}, api.ErrLong: {"AHx"}} {
		got, e := filter.Encode(broken, list, nil, strings.Repeat("m", api.MaxData+1))
		checkObject(t, "Encode", got, e, api.Object{}, want)
	}
	got, e := filter.Encode(broken, nil, plain(1), "")
	checkObject(t, "Encode", got, e, api.Object{}, api.ErrArg)
}

// Promise 16.4: the arguments stay as they are.
func TestEncodeKeepsArguments(t *testing.T) {
	list, parms := []string{"AHx", "Fl"}, []api.Parms{plain(1)[0], {Predictor: 12, Colors: 1, Columns: 3}}
	o := sample.Dict("A", sample.Array(value.Int(1)))
	got, _ := filter.Encode(o, list, parms, "abc")
	got.Kids[0].Kids[0].N = 5
	if list[0] != "AHx" || list[1] != "Fl" || parms[0] != plain(1)[0] || parms[1].Columns != 3 || o.Kids[0].Kids[0].N != 1 || len(o.Keys) != 1 {
		t.Errorf("the arguments are changed: %v, %v, %s", list, parms, brief(o))
	}
}
