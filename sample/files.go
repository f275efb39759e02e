package sample

import (
	"cmp"
	"slices"
	"strconv"
	"strings"

	"foliant/api"
)

// A File is a file that is put together by hand, piece by piece.
type File struct {
	text strings.Builder
	// slots has the entries of the next section.
	slots []api.Slot
}

// NewFile returns a file that has a header only.
func NewFile() *File {
	f := &File{}
	f.Put("%PDF-1.4\n")
	return f
}

// Text returns the file as it is so far.
func (f *File) Text() string { return f.text.String() }

// Put puts text, and returns its offset.
func (f *File) Put(text string) int {
	at := f.text.Len()
	f.text.WriteString(text)
	return at
}

// Enter adds an entry to the next section, in place of the one with the same number.
func (f *File) Enter(slot api.Slot) {
	f.slots = slices.DeleteFunc(f.slots, func(old api.Slot) bool { return old.Num == slot.Num })
	f.slots = append(f.slots, slot)
	slices.SortFunc(f.slots, func(a, b api.Slot) int { return cmp.Compare(a.Num, b.Num) })
}

// Item puts an object with the given text, and enters it.
func (f *File) Item(num, gen int, text string) int {
	at := f.Put(strconv.Itoa(num) + " " + strconv.Itoa(gen) + " obj " + text + " endobj\n")
	f.Enter(api.Slot{Num: num, Kind: api.SlotPlain, A: at, B: gen})
	return at
}

// Stream puts a stream with the given entries, whose length is told as given, or directly if that is empty, and enters it.
func (f *File) Stream(num int, entries, length, data string) int {
	if length == "" {
		length = strconv.Itoa(len(data))
	}
	return f.Item(num, 0, "<<"+entries+"/Length "+length+">>stream\n"+data+"\nendstream")
}

// Pack puts an object stream of objects with the given numbers and texts, whose length is told as for Stream, and enters all of them. It returns the length.
func (f *File) Pack(num int, length string, nums []int, texts ...string) int {
	pairs, data := "", ""
	for place, member := range nums {
		pairs += strconv.Itoa(member) + " " + strconv.Itoa(len(data)) + " "
		data += texts[place] + " "
		f.Enter(api.Slot{Num: member, Kind: api.SlotPacked, A: num, B: place})
	}
	f.Stream(num, "/Type/ObjStm/N "+strconv.Itoa(len(nums))+"/First "+strconv.Itoa(len(pairs)), length, pairs+data)
	return len(pairs + data)
}

// Table puts the table of what was entered since the last section, with the given entries of its trailer, and returns its offset.
func (f *File) Table(trailer string) int {
	at := f.Put("xref\n")
	for _, slot := range f.slots {
		kind := " n \n"
		if slot.Kind == api.SlotFree {
			kind = " f \n"
		}
		f.Put(strconv.Itoa(slot.Num) + " 1\n" + strconv.Itoa(slot.A) + " " + strconv.Itoa(slot.B) + kind)
	}
	f.Put("trailer<<" + trailer + ">>\n")
	f.slots = nil
	return at
}

// Cross puts the cross-reference stream of what was entered since the last section and of itself, with the given entries, and returns its offset.
func (f *File) Cross(num int, entries string) int {
	at := f.text.Len()
	f.Enter(api.Slot{Num: num, Kind: api.SlotPlain, A: at})
	index := ""
	var rows []byte
	for _, slot := range f.slots {
		index += strconv.Itoa(slot.Num) + " 1 "
		rows = append(rows, byte(slot.Kind), byte(slot.A>>16), byte(slot.A>>8), byte(slot.A), byte(slot.B>>8), byte(slot.B))
	}
	f.Stream(num, "/Type/XRef/W[1 3 2]/Index["+index+"]"+entries, "", string(rows))
	f.slots = nil
	return at
}

// End puts the end of a file whose cross references begin at offset at.
func (f *File) End(at int) {
	f.Put("startxref\n" + strconv.Itoa(at) + "\n%%EOF\n")
}
