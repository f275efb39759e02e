package cross

import (
	"foliant/api"
	"foliant/give"
	"foliant/table"
)

const widest = 4

// width returns how many bytes hold n, which is not negative, but no more than a field may have.
func width(n int) int {
	w := 0
	for ; n > 0 && w < widest; n >>= 8 {
		w++
	}
	return w
}

// rows returns the rows of the entries, whose fields have the widths w.
func rows(l []api.Slot, w [3]int) string {
	var out []byte
	for _, slot := range l {
		for i, n := range [3]int{slot.Kind, slot.A, slot.B} {
			out = field(out, n, w[i])
		}
	}
	return string(out)
}

// field adds the number n to out, its highest byte first.
func field(out []byte, n, width int) []byte {
	for i := range width {
		out = append(out, byte(n>>(8*(width-1-i))))
	}
	return out
}

// slots returns the entries of rows.
func (p plan) slots(data string) []api.Slot {
	var list []api.Slot
	for num := range p.numbers() {
		var n [3]int
		for i, width := range p.widths {
			if len(data) < width {
				give.Up(api.ErrStream)
			}
			n[i], data = number(data[:width]), data[width:]
		}
		if p.widths[0] == 0 {
			n[0] = api.SlotPlain
		}
		list = append(list, api.Slot{Num: num, Kind: n[0], A: n[1], B: n[2]})
	}
	if table.Check(list) != api.OK {
		give.Up(api.ErrStream)
	}
	return list
}

// number returns the number whose bytes are s, the highest first.
func number(s string) int {
	n := 0
	for i := range len(s) {
		n = n<<8 | int(s[i])
	}
	return n
}
