package predict_test

import (
	"bytes"
	"compress/zlib"
	"fmt"
	"image"
	"image/png"
	"io"
	"math/rand"
	"strings"
	"testing"

	"foliant/api"
	"foliant/predict"
	"foliant/sample"
)

// brief shows the beginning of a text.
func brief(s string) string { return fmt.Sprintf("%.120q", s) }

// noise returns n bytes, each one of so many.
func noise(seed int64, n, kinds int) string {
	r := rand.New(rand.NewSource(seed))
	b := make([]byte, n)
	for i := range b {
		b[i] = byte(r.Intn(kinds))
	}
	return string(b)
}

// slope returns n bytes that rise and fall.
func slope(n, step int) string {
	b := make([]byte, n)
	for i := range b {
		b[i] = byte(i * step)
	}
	return string(b)
}

// parms returns parameters.
func parms(predictor, colors, columns int) api.Parms {
	return api.Parms{Predictor: predictor, Colors: colors, Columns: columns}
}

// predictors are all that there are.
func predictors() []int { return []int{1, 2, 10, 11, 12, 13, 14, 15} }

// Promise 15.1.
func TestCheckAndRow(t *testing.T) {
	good := map[int]bool{}
	for _, p := range predictors() {
		good[p] = true
	}
	for p := -20; p < 300; p++ {
		want := api.ErrArg
		if good[p] {
			want = api.OK
		}
		if e := predict.Check(parms(p, 1, 1)); e != want {
			t.Errorf("Check of predictor %d = %d, want %d", p, e, want)
		}
	}
	for _, c := range []struct{ colors, columns, row int }{
		{1, 1, 1}, {3, 5, 15}, {1, 8192, 8192}, {8192, 1, 8192}, {2, 4096, 8192}, {64, 128, 8192}, {3, 2730, 8190}, {90, 91, 8190},
		{1, 8193, 0}, {8193, 1, 0}, {2, 4097, 0}, {3, 2731, 0}, {91, 91, 0}, {64, 129, 0}, {0, 1, 0}, {1, 0, 0}, {0, 0, 0}, {-1, 1, 0}, {1, -1, 0}, {-1, -1, 0}, {-2, -3, 0},
		{1 << 32, 1 << 32, 0}, {1 << 62, 4, 0}, {4, 1 << 62, 0}, {1<<63 - 1, 1<<63 - 1, 0}, {-1 << 63, -1, 0}, {-1 << 63, 2, 0}, {1, -1 << 63, 0}, {1<<32 + 1, 1 << 32, 0},
	} {
		for _, predictor := range predictors() {
			want := api.OK
			if c.row == 0 {
				want = api.ErrArg
			}
			p := parms(predictor, c.colors, c.columns)
			if e := predict.Check(p); e != want {
				t.Errorf("Check(%v) = %d, want %d", p, e, want)
			}
			if n := predict.Row(p); n != c.row {
				t.Errorf("Row(%v) = %d, want %d", p, n, c.row)
			}
		}
		for _, predictor := range []int{0, -1, 3, 9, 16, 1 << 40} {
			if n := predict.Row(parms(predictor, c.colors, c.columns)); n != 0 {
				t.Errorf("Row of predictor %d = %d", predictor, n)
			}
		}
	}
}

// distance returns how far a and b are from each other.
func distance(a, b int) int {
	if a < b {
		return b - a
	}
	return a - b
}

// nearest is Paeth by the words of promise 15.1.
func nearest(a, b, c int) int {
	p := a + b - c
	switch {
	case distance(p, a) <= distance(p, b) && distance(p, a) <= distance(p, c):
		return a
	case distance(p, b) <= distance(p, c):
		return b
	}
	return c
}

// Promise 15.1.
func TestPaeth(t *testing.T) {
	for a := range 256 {
		for b := range 256 {
			for c := range 256 {
				if got, want := predict.Paeth(byte(a), byte(b), byte(c)), nearest(a, b, c); int(got) != want {
					t.Fatalf("Paeth(%d, %d, %d) = %d, want %d", a, b, c, got, want)
				}
			}
		}
	}
	for _, c := range [][4]byte{{10, 20, 15, 15}, {10, 10, 0, 10}, {0, 0, 0, 0}, {1, 2, 3, 1}, {200, 100, 255, 100}, {255, 255, 0, 255}, {3, 5, 4, 4}, {0, 4, 2, 2}} {
		if got := predict.Paeth(c[0], c[1], c[2]); got != c[3] {
			t.Errorf("Paeth(%d, %d, %d) = %d, want %d", c[0], c[1], c[2], got, c[3])
		}
	}
}

// filtered returns a row after a row filter, by the words of the chapter.
func filtered(tag int, prev, row string, colors int) string {
	at := func(s string, i int) int {
		if i < 0 || i >= len(s) {
			return 0
		}
		return int(s[i])
	}
	b := make([]byte, len(row))
	for i := range b {
		left, above, corner := at(row, i-colors), at(prev, i), at(prev, i-colors)
		guess := [5]int{0, left, above, (left + above) / 2, nearest(left, above, corner)}[tag]
		b[i] = byte(int(row[i]) - guess + 256)
	}
	return string(b)
}

// weight returns the sum of absolute values of a row.
func weight(row string) int {
	sum := 0
	for i := range len(row) {
		if d := int(row[i]); d <= 128 {
			sum += d
		} else {
			sum += 256 - d
		}
	}
	return sum
}

// best is Best by the words of promise 15.4.
func best(prev, row string, colors int) int {
	tag := 0
	for i := range 5 {
		if weight(filtered(i, prev, row, colors)) < weight(filtered(tag, prev, row, colors)) {
			tag = i
		}
	}
	return tag
}

// Promises 15.4 and 15.6.
func TestBest(t *testing.T) {
	for i, c := range []struct {
		prev, row    string
		colors, want int
	}{
		{"", "\x07\x07\x07", 1, 1}, {"", "", 1, 0}, {"abc", "", 3, 0}, {"", "\x07", 1, 0}, {"", "\x00\x00", 1, 0}, {"\x05\x09\x02", "\x05\x09\x02", 1, 2}, {"\x05\x09", "\x05\x09\x02\x70\x01\x69", 1, 2}, {"\x05\x09\x02\xff\xff", "\x05\x09\x02", 1, 2},
		{"", "\x07\x07\x07", 3, 0}, {"", "\x07\x60\x07\x60", 2, 1}, {"", "\x07\x60\x07\x60", 1, 0}, {"", "\x07\x07\x07", 0, 1}, {"", "\x07\x07\x07", -5, 1}, {"", "\x07\x07\x07", -1 << 63, 1}, {"", "\x07\x07\x07", 1<<63 - 1, 0}, {"\x07", "\x07", 1<<63 - 1, 2},
		{"\x80", "\x80", 1, 2}, {"\xff\xff", "\xfe\xfe", 1, 4}, {"", "\x81\x7f", 1, 1}, {"", "\x80\x00", 1, 0}, {"\x64\x78", "\x32\x55", 1, 3}, {"\x0a\x14\x1e\x28", "\x14\x1e\x28\x32", 1, 2},
	} {
		if got := predict.Best(c.prev, c.row, c.colors); got != c.want {
			t.Errorf("%d: Best(%q, %q, %d) = %d, want %d", i, c.prev, c.row, c.colors, got, c.want)
		}
	}
	found := map[int]int{}
	for i := range 20000 {
		kinds := []int{2, 5, 40, 256}[i%4]
		prev, row, colors := noise(int64(i), i%11, kinds), noise(int64(i+1), i%9, kinds), i%6-1
		got, want := predict.Best(prev, row, colors), best(prev, row, max(colors, 1))
		if found[want]++; got != want {
			t.Fatalf("Best(%q, %q, %d) = %d, want %d", prev, row, colors, got, want)
		}
	}
	if len(found) != 5 {
		t.Errorf("tags found: %v", found)
	}
	for a := range 256 {
		for b := range 256 {
			row := string([]byte{byte(a), byte(b)})
			if got, want := predict.Best("\x40\xc0", row, 1), best("\x40\xc0", row, 1); got != want {
				t.Fatalf("Best of %q = %d, want %d", row, got, want)
			}
		}
	}
}

// slowEncode encodes by the words of promise 15.2.
func slowEncode(p api.Parms, s string) string {
	if p.Predictor == 1 {
		return s
	}
	out, prev, size := "", "", p.Colors*p.Columns
	for ; s != ""; s = s[size:] {
		row := s[:size]
		switch p.Predictor {
		case 2:
			out += filtered(1, prev, row, p.Colors)
		case 15:
			tag := best(prev, row, p.Colors)
			out += string([]byte{byte(tag)}) + filtered(tag, prev, row, p.Colors)
		default:
			tag := p.Predictor - 10
			out += string([]byte{byte(tag)}) + filtered(tag, prev, row, p.Colors)
		}
		prev = row
	}
	return out
}

// checkText holds an answer of Encode or Decode against the wanted one.
func checkText(t *testing.T, what string, p api.Parms, s, got string, e api.Errno, want string, wantErr api.Errno) {
	t.Helper()
	if got != want || e != wantErr {
		t.Errorf("%s(%v, %s) = %s, %d, want %s, %d", what, p, brief(s), brief(got), e, brief(want), wantErr)
	}
}

func checkEncode(t *testing.T, p api.Parms, s, want string, wantErr api.Errno) {
	t.Helper()
	got, e := predict.Encode(p, s)
	checkText(t, "Encode", p, s, got, e, want, wantErr)
}

func checkDecode(t *testing.T, p api.Parms, s, want string, wantErr api.Errno) {
	t.Helper()
	got, e := predict.Decode(p, s)
	checkText(t, "Decode", p, s, got, e, want, wantErr)
}

// Promises 15.2 and 15.3: the examples, and rows by hand.
func TestExamples(t *testing.T) {
	for _, c := range []struct {
		p                api.Parms
		plain, predicted string
	}{
		{parms(2, 1, 3), "\x05\x07\x04", "\x05\x02\xfd"}, {parms(12, 1, 2), "\x01\x02\x03\x05", "\x02\x01\x02\x02\x02\x03"},
		{parms(1, 1, 2), "abc", "abc"}, {parms(1, 1, 1), "", ""}, {parms(2, 1, 1), "", ""}, {parms(15, 1, 1), "", ""},
		{parms(2, 2, 2), "\x01\x02\x03\x05\x09\x09\x08\x0a", "\x01\x02\x02\x03\x09\x09\xff\x01"}, {parms(2, 1, 1), "\x01\x02\x03", "\x01\x02\x03"}, {parms(2, 3, 1), "abcdef", "abcdef"}, {parms(2, 1, 2), "\x00\xff\xff\x00", "\x00\xff\xff\x01"},
		{parms(10, 1, 2), "abcd", "\x00ab\x00cd"}, {parms(11, 1, 2), "\x05\x07\x09\x08", "\x01\x05\x02\x01\x09\xff"}, {parms(12, 2, 1), "\x05\x07\x09\x08", "\x02\x05\x07\x02\x04\x01"},
		{parms(13, 1, 2), "\xff\xff\xff\xff", "\x03\xff\x80\x03\x80\x00"}, {parms(13, 1, 3), "\x03\x04\x05\x08\x08\x08", "\x03\x03\x03\x03\x03\x07\x02\x02"}, {parms(14, 1, 2), "\x0a\x14\x0f\x19", "\x04\x0a\x0a\x04\x05\x05"}, {parms(14, 1, 3), "\x01\x01\x01\x02\x01\x01", "\x04\x01\x00\x00\x04\x01\xff\x00"},
		{parms(15, 1, 3), "\x07\x07\x07\x07\x07\x07\x01\x09\x60", "\x01\x07\x00\x00\x02\x00\x00\x00\x03\xfe\x05\x58"},
	} {
		checkEncode(t, c.p, c.plain, c.predicted, api.OK)
		checkDecode(t, c.p, c.predicted, c.plain, api.OK)
	}
}

// shapes are pairs of colors and columns.
func shapes() [][2]int {
	return [][2]int{{1, 1}, {1, 2}, {1, 7}, {3, 1}, {3, 5}, {4, 4}, {7, 2}, {5, 20}, {8, 33}, {100, 1}}
}

// Promises 15.2, 15.3, 15.5 and 15.6.
func TestPredictors(t *testing.T) {
	for _, predictor := range predictors() {
		for i, shape := range shapes() {
			p := parms(predictor, shape[0], shape[1])
			row := shape[0] * shape[1]
			for rows := range 12 {
				n := rows * row
				for _, s := range []string{noise(int64(i), n, 256), noise(int64(i), n, 4), slope(n, 3), slope(n, 77), strings.Repeat("\xff", n), strings.Repeat("\x80", n), noise(int64(rows), n, 2)} {
					want := slowEncode(p, s)
					checkEncode(t, p, s, want, api.OK)
					checkDecode(t, p, want, s, api.OK)
				}
			}
		}
	}
}

// Promise 15.3: the tags choose, whichever the predictor is.
func TestTags(t *testing.T) {
	for _, shape := range shapes() {
		row := shape[0] * shape[1]
		s := noise(int64(row), row*40, 256)
		all, prev := "", ""
		for i := range 40 {
			tag, part := i*7%5, s[i*row:][:row]
			all += string([]byte{byte(tag)}) + filtered(tag, prev, part, shape[0])
			prev = part
		}
		for predictor := 10; predictor <= 15; predictor++ {
			checkDecode(t, parms(predictor, shape[0], shape[1]), all, s, api.OK)
		}
	}
}

// Promise 15.2: no tag of predictor 15 is worse than another, and the others keep to their own.
func TestOwnTags(t *testing.T) {
	s := noise(1, 600, 256) + slope(600, 3) + strings.Repeat("ab", 300)
	for predictor := 10; predictor <= 15; predictor++ {
		p := parms(predictor, 3, 10)
		got, _ := predict.Encode(p, s)
		for i := range len(s) / 30 {
			tag, want := int(got[31*i]), predictor-10
			if predictor == 15 {
				prev := ""
				if i > 0 {
					prev = s[30*i-30:][:30]
				}
				want = predict.Best(prev, s[30*i:][:30], 3)
			}
			if tag != want {
				t.Errorf("row %d of predictor %d has the tag %d, want %d", i, predictor, tag, want)
			}
		}
	}
}

// Promises 15.2 and 15.3: the errors, and which comes first.
func TestErrors(t *testing.T) {
	long := strings.Repeat("m", api.MaxData+1)
	for _, p := range []api.Parms{{}, parms(0, 1, 1), parms(3, 1, 1), parms(9, 1, 1), parms(16, 1, 1), parms(-1, 1, 1), parms(2, 0, 1), parms(2, 1, 0), parms(12, 2, 4097), parms(1, 0, 1), parms(1, 1, 8193), parms(15, 1<<32, 1<<32)} {
		for _, s := range []string{"", "a", long} {
			checkEncode(t, p, s, "", api.ErrArg)
			checkDecode(t, p, s, "", api.ErrArg)
		}
	}
	for _, predictor := range predictors() {
		for _, columns := range []int{1, 2, 8192} {
			checkEncode(t, parms(predictor, 1, columns), long, "", api.ErrLong)
			checkDecode(t, parms(predictor, 1, columns), long, "", api.ErrLong)
		}
		if predictor == 1 {
			continue
		}
		p, tag := parms(predictor, 2, 3), 1
		if predictor == 2 {
			tag = 0
		}
		for n := range 50 {
			s := strings.Repeat("\x00", n)
			want := api.ErrRow
			if n%6 == 0 {
				want = api.OK
			}
			if _, e := predict.Encode(p, s); e != want {
				t.Errorf("Encode(%v, %d bytes) = %d, want %d", p, n, e, want)
			}
			want = api.ErrRow
			if n%(6+tag) == 0 {
				want = api.OK
			}
			if _, e := predict.Decode(p, s); e != want {
				t.Errorf("Decode(%v, %d bytes) = %d, want %d", p, n, e, want)
			}
		}
	}
	for _, n := range []int{1, 5, 1000} {
		checkEncode(t, parms(1, 2, 3), long[:n], long[:n], api.OK)
		checkDecode(t, parms(1, 2, 3), long[:n], long[:n], api.OK)
	}
}

// Promise 15.3: each tag there is, in the first row and in a later one.
func TestBadTags(t *testing.T) {
	for predictor := 10; predictor <= 15; predictor++ {
		p := parms(predictor, 1, 2)
		for tag := range 256 {
			s, want := string([]byte{byte(tag), 0, 0}), api.ErrForm
			if tag <= 4 {
				want = api.OK
			}
			for _, s := range []string{s, "\x00\x00\x00" + s, s + "\x04\x00\x00"} {
				if out, e := predict.Decode(p, s); e != want || (out == "") != (e != api.OK) {
					t.Errorf("Decode(%v, %q) = %q, %d, want %d", p, s, out, e, want)
				}
			}
			checkDecode(t, p, s+"\x05", "", api.ErrRow)
		}
	}
	checkDecode(t, parms(2, 1, 3), "\x05\x00\x00", "\x05\x05\x05", api.OK)
}

// Promise 15.2: as many bytes as may be, and one row more.
func TestMostBytes(t *testing.T) {
	most := strings.Repeat("m", api.MaxData)
	for _, predictor := range []int{1, 2} {
		for _, columns := range []int{1, 8192} {
			p := parms(predictor, 1, columns)
			got, e := predict.Encode(p, most)
			if len(got) != api.MaxData || e != api.OK {
				t.Errorf("Encode(%v) = %d bytes, %d", p, len(got), e)
			}
			checkDecode(t, p, got, most, api.OK)
		}
	}
	for predictor := 10; predictor <= 15; predictor++ {
		for _, columns := range []int{1, 3, 63, 1023, 8192} {
			p := parms(predictor, 1, columns)
			rows := api.MaxData / (columns + 1)
			got, e := predict.Encode(p, most[:rows*columns])
			if len(got) != rows*(columns+1) || e != api.OK {
				t.Errorf("Encode(%v) of %d rows = %d bytes, %d", p, rows, len(got), e)
			}
			checkDecode(t, p, got, most[:rows*columns], api.OK)
			checkEncode(t, p, most[:rows*columns+columns], "", api.ErrLong)
		}
		checkEncode(t, parms(predictor, 1, 3), most, "", api.ErrRow)
		checkEncode(t, parms(predictor, 1, 8192), most, "", api.ErrLong)
	}
}

// Promise 15.3: rows that another program filtered.
func TestOtherProgram(t *testing.T) {
	pic := image.NewNRGBA(image.Rect(0, 0, 40, 60))
	copy(pic.Pix, slope(4800, 3)+noise(3, 2400, 256)+sample.Bytes()+strings.Repeat("abcd", 500))
	for i := range 40 * 60 {
		pic.Pix[4*i+3] &^= 1 // never quite opaque, so that there are four colors
	}
	var file bytes.Buffer
	if err := png.Encode(&file, pic); err != nil {
		t.Fatal(err)
	}
	var packed []byte
	for b := file.Bytes()[8:]; len(b) > 0; {
		n := int(b[0])<<24 | int(b[1])<<16 | int(b[2])<<8 | int(b[3])
		if string(b[4:8]) == "IDAT" {
			packed = append(packed, b[8:8+n]...)
		}
		b = b[12+n:]
	}
	r, err := zlib.NewReader(bytes.NewReader(packed))
	if err != nil {
		t.Fatal(err)
	}
	rows, err := io.ReadAll(r)
	if err != nil {
		t.Fatal(err)
	}
	checkDecode(t, parms(15, 4, 40), string(rows), string(pic.Pix), api.OK)
}
