package update

import (
	"slices"
	"sort"

	"foliant/api"
	"foliant/head"
	"foliant/load"
	"foliant/octet"
)

// Revisions returns the offsets at which the revisions of s end.
func Revisions(s string) []int {
	// Asked once, since each of the ends would have all before it looked through for a header that is not there.
	if _, _, e := head.Version(s); e != api.OK {
		return nil
	}
	var list []int
	for _, ends := range byStart(s) {
		list = append(list, from(ends, func(end int) bool {
			_, e := load.Strict(s[:end])
			return e == api.OK
		})...)
	}
	slices.Sort(list)
	return list
}

// Back returns the revision n of s, counted from 1.
func Back(s string, n int) (string, api.Errno) {
	ends := Revisions(s)
	if n < 1 || n > len(ends) {
		return "", api.ErrNone
	}
	return s[:ends[n-1]], api.OK
}

// byStart returns the ends of files in s, by the offset at which the cross references of the file begin. Those at one offset can be read from some end on: no end stands within a token, so that what is read without an error is not changed by what follows. So a few ends tell of all, however many end-of-file marks there are.
func byStart(s string) map[int][]int {
	found := map[int][]int{}
	for _, ends := range groups(s) {
		ends = from(ends, func(end int) bool {
			_, e := head.Start(s[:end])
			return e == api.OK
		})
		if len(ends) > 0 {
			start, _ := head.Start(s[:ends[0]])
			found[start] = append(found[start], ends...)
		}
	}
	return found
}

// groups returns the ends in s of files that are not too long, those together that have the same startxref last before them.
func groups(s string) [][]int {
	var list [][]int
	last := 0
	for _, end := range head.Ends(s) {
		if end > api.MaxFile {
			break
		}
		if last == 0 || octet.Find(s[:end], "startxref", last) >= 0 {
			list = append(list, nil)
		}
		last = end
		list[len(list)-1] = append(list[len(list)-1], end)
	}
	return list
}

// from returns the ends from the first one on for which ok holds, as it does for all after it.
func from(ends []int, ok func(end int) bool) []int {
	return ends[sort.Search(len(ends), func(i int) bool { return ok(ends[i]) }):]
}
