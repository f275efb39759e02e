package inflate_test

import (
	"fmt"
	"strings"

	"foliant/api"
)

// slow decompresses by the words of the chapter, with texts of zeros and ones.
type slow struct {
	bits string
	at   int
	out  string
	most int
}

// slowly is All.
func slowly(s string, most int) (out string, used int, e api.Errno) {
	defer func() {
		if r := recover(); r != nil {
			out, used, e = "", 0, r.(api.Errno)
		}
	}()
	if most < 0 {
		return "", 0, api.ErrArg
	}
	var b strings.Builder
	for i := range len(s) {
		for j := range 8 {
			b.WriteByte('0' + s[i]>>j&1)
		}
	}
	d := &slow{bits: b.String(), most: min(most, api.MaxData)}
	for d.block() == 0 {
	}
	return d.out, (d.at + 7) / 8, api.OK
}

func (d *slow) bit() string {
	if d.at == len(d.bits) {
		panic(api.ErrEnd)
	}
	d.at++
	return d.bits[d.at-1 : d.at]
}

func (d *slow) number(n int) int {
	v := 0
	for i := range n {
		if d.bit() == "1" {
			v += 1 << i
		}
	}
	return v
}

// words returns the codes of symbols, as texts.
func words(lens []int) map[string]int {
	codes := map[string]int{}
	next, room, shorts := 0, 1<<15, 0
	for n := 1; n <= 15; n++ {
		next *= 2
		for sign := range lens {
			if lens[sign] == n {
				codes[fmt.Sprintf("%0*b", n, next)] = sign
				next++
				room -= 1 << (15 - n)
				shorts += n
			}
		}
	}
	if room != 0 && len(codes) != 0 && shorts != 1 {
		panic(api.ErrCode)
	}
	return codes
}

func (d *slow) symbol(codes map[string]int) int {
	for word := ""; ; word += d.bit() {
		if sign, ok := codes[word]; ok {
			return sign
		}
		begins := false
		for c := range codes {
			begins = begins || strings.HasPrefix(c, word)
		}
		if !begins {
			panic(api.ErrCode)
		}
	}
}

func (d *slow) block() int {
	last := d.number(1)
	switch d.number(2) {
	case 0:
		d.at = (d.at + 7) / 8 * 8
		n := d.number(16)
		if n+d.number(16) != 65535 {
			panic(api.ErrForm)
		}
		if len(d.out)+n > d.most {
			panic(api.ErrLong)
		}
		if d.at+8*n > len(d.bits) {
			panic(api.ErrEnd)
		}
		for range n {
			d.out += string([]byte{byte(d.number(8))})
		}
	case 1:
		var signs, fars []int
		for i := range 288 {
			signs = append(signs, 8)
			if i >= 144 && i < 256 {
				signs[i] = 9
			}
			if i >= 256 && i < 280 {
				signs[i] = 7
			}
		}
		for range 32 {
			fars = append(fars, 5)
		}
		d.symbols(words(signs), words(fars))
	case 2:
		d.dynamic()
	default:
		panic(api.ErrForm)
	}
	return last
}

func (d *slow) dynamic() {
	signs := d.number(5) + 257
	if signs > 286 {
		panic(api.ErrForm)
	}
	fars := d.number(5) + 1
	if fars > 30 {
		panic(api.ErrForm)
	}
	var own [19]int
	order := strings.Fields("16 17 18 0 8 7 9 6 10 5 11 4 12 3 13 2 14 1 15")
	for _, name := range order[:d.number(4)+4] {
		var sign int
		fmt.Sscan(name, &sign)
		own[sign] = d.number(3)
	}
	codes := words(own[:])
	var lens []int
	for len(lens) < signs+fars {
		sign := d.symbol(codes)
		v, times := sign, 1
		switch sign {
		case 16:
			if len(lens) == 0 {
				panic(api.ErrForm)
			}
			v, times = lens[len(lens)-1], 3+d.number(2)
		case 17:
			v, times = 0, 3+d.number(3)
		case 18:
			v, times = 0, 11+d.number(7)
		}
		for range times {
			if len(lens) == signs+fars {
				panic(api.ErrForm)
			}
			lens = append(lens, v)
		}
	}
	if lens[256] == 0 {
		panic(api.ErrCode)
	}
	first := words(lens[:signs])
	d.symbols(first, words(lens[signs:]))
}

// The tables of promises 11.2 and 11.3.
const (
	sizes = "3 4 5 6 7 8 9 10 11 13 15 17 19 23 27 31 35 43 51 59 67 83 99 115 131 163 195 227 258"
	fars  = "1 2 3 4 5 7 9 13 17 25 33 49 65 97 129 193 257 385 513 769 1025 1537 2049 3073 4097 6145 8193 12289 16385 24577"
)

// bases returns the numbers of a table.
func bases(table string) []int {
	var l []int
	for _, word := range strings.Fields(table) {
		var n int
		fmt.Sscan(word, &n)
		l = append(l, n)
	}
	return l
}

func sizeBits(sign int) int {
	switch {
	case sign <= 264 || sign == 285:
		return 0
	case sign <= 268:
		return 1
	case sign <= 272:
		return 2
	case sign <= 276:
		return 3
	case sign <= 280:
		return 4
	}
	return 5
}

func farBits(sign int) int {
	n := 0
	for i := 4; i <= sign; i += 2 {
		n++
	}
	return n
}

func (d *slow) symbols(signs, distances map[string]int) {
	for {
		sign := d.symbol(signs)
		switch {
		case sign == 256:
			return
		case sign < 256:
			if len(d.out) >= d.most {
				panic(api.ErrLong)
			}
			d.out += string([]byte{byte(sign)})
			continue
		case sign > 285:
			panic(api.ErrCode)
		}
		n := bases(sizes)[sign-257] + d.number(sizeBits(sign))
		sign = d.symbol(distances)
		if sign > 29 {
			panic(api.ErrCode)
		}
		far := bases(fars)[sign] + d.number(farBits(sign))
		if far > len(d.out) {
			panic(api.ErrFar)
		}
		if len(d.out)+n > d.most {
			panic(api.ErrLong)
		}
		for range n {
			d.out += d.out[len(d.out)-far:][:1]
		}
	}
}
