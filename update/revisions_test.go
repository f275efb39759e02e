package update_test

import (
	"fmt"
	"math"
	"slices"
	"strings"
	"testing"

	"foliant/api"
	"foliant/head"
	"foliant/load"
	"foliant/update"
)

// revisions returns the ends of the revisions of a file by the words of the chapter.
func revisions(s string) []int {
	var list []int
	for _, end := range head.Ends(s) {
		if _, e := load.Strict(s[:end]); e == api.OK {
			list = append(list, end)
		}
	}
	return list
}

// checkRevisions holds the revisions of a file against the words of the chapter, and returns how many they are.
func checkRevisions(t *testing.T, s string) int {
	t.Helper()
	want := revisions(s)
	got := update.Revisions(s)
	if !slices.Equal(got, want) {
		t.Fatalf("Revisions(%q) = %v, want %v", s, got, want)
	}
	for n := range len(want) + 2 {
		back, e := update.Back(s, n)
		if n == 0 || n > len(want) {
			if back != "" || e != api.ErrNone {
				t.Errorf("Back(%q, %d) = %q, %d", s, n, back, e)
			}
		} else if back != s[:want[n-1]] || e != api.OK {
			t.Errorf("Back(%q, %d) = %q, %d", s, n, back, e)
		}
	}
	return len(want)
}

// Promise 28.2: files without a revision, and numbers of none.
func TestNoRevisions(t *testing.T) {
	s, _ := two()
	for _, s := range []string{"", "%%EOF", "%PDF-1.4\n%%EOF", "%PDF-1.4\nstartxref 0\n%%EOF\n%%EOF", strings.ReplaceAll(s, "%%EOF", "%EOF"), strings.ReplaceAll(s, "PDF", "PDE"), strings.ReplaceAll(s, "startxref\n", "startxref "), strings.ReplaceAll(s, "\n%%EOF", " %%EOF"), strings.ReplaceAll(s, "Root", "Rood")} {
		if n := checkRevisions(t, s); n > 0 && !strings.Contains(s, "startxref ") {
			t.Errorf("%q has %d revisions", s, n)
		}
	}
	for _, n := range []int{math.MinInt, -1, 0, 2, math.MaxInt} {
		if back, e := update.Back(s, n); back != "" || e != api.ErrNone {
			t.Errorf("Back(%d) = %q, %d", n, back, e)
		}
	}
	if back, e := update.Back(s, 1); back != s || e != api.OK {
		t.Errorf("Back(1) = %q, %d", back, e)
	}
}

// Promise 28.2: end-of-file marks in all places of files, most of which end no revision.
func TestRevisionsByTheWords(t *testing.T) {
	counts := map[int]int{}
	for n := range uint32(6000) {
		seed := n
		counts[min(checkRevisions(t, marked(&seed)), 9)]++
	}
	for n := range 10 {
		if counts[n] < 50 {
			t.Errorf("%d files have %d revisions", counts[n], n)
		}
	}
}

// marked returns a file with some objects and tables, the ends of files, and anything else between them.
func marked(seed *uint32) string {
	s := []string{"%PDF-1.4\n", "x %PDF-1.4\n", "%PDF-1.4\n1 0 obj<<>>endobj\n"}[pick(seed, 3)]
	var starts []int
	object := strings.Index(s, "1 0 obj")
	for range 3 + pick(seed, 30) {
		switch pick(seed, 12) {
		case 0:
			object = len(s)
			s += "1 0 obj<<>>%%\r%%EOF\n% \nendobj\n"
		case 1, 2:
			starts = append(starts, len(s))
			s += fmt.Sprintf("xref 1 1 %d 0 n trailer<</Root 1 0 R>>\n", object+pick(seed, 8)/7)
		case 3:
			starts = append(starts, len(s))
			s += fmt.Sprintf("xref 1 1 %d 0 n\n%%%%EOF\n2 0 trailer<</Root 1 0 R>>", len(s)+200)
		case 4, 5:
			s += "startxref\n"
		case 6, 7, 8:
			if len(starts) > 0 {
				s += fmt.Sprintf("startxref\n%d\n%%%%EOF\n", starts[pick(seed, len(starts))])
			}
		case 9:
			if len(starts) > 0 {
				s += fmt.Sprint(starts[pick(seed, len(starts))], []string{"", " ", "\n", "x"}[pick(seed, 4)])
			}
		case 10:
			s += []string{"%%EOF", "\r%%EOF", "\n%%EOF%%EOF", "\n%%EOF\r\n", "%%EOF\r%%EOF\n"}[pick(seed, 5)]
		case 11:
			s += []string{" ", "\n", "\r", "(", ")", "% ", "9", "7777", "%%EOF\n"}[pick(seed, 9)]
		}
	}
	return s
}

// Promise 28.2: what follows a file that is as long as files may be is no matter to its revisions.
func TestRevisionsOfLongFiles(t *testing.T) {
	s, at := two()
	tail := fmt.Sprintf("startxref\n%d\n%%%%EOF\n", at)
	full := s + strings.Repeat(" ", api.MaxFile-len(s)-len(tail)-1) + "\n" + tail
	for _, c := range []struct {
		s    string
		want []int
	}{{full, []int{len(s), api.MaxFile}}, {full + tail + tail, []int{len(s), api.MaxFile}}, {full + strings.Repeat("%%EOF\n", 9), []int{len(s), api.MaxFile}}, {full[:len(full)-1] + " ", []int{len(s), api.MaxFile}}, {full[:len(full)-1] + " \n%%EOF\n", []int{len(s)}}, {full[:len(full)-1] + "  ", []int{len(s)}}} {
		if got := update.Revisions(c.s); !slices.Equal(got, c.want) {
			t.Errorf("Revisions of %d bytes = %v, want %v", len(c.s), got, c.want)
		}
	}
}

// Promise 28.2: very many end-of-file marks.
func TestManyMarks(t *testing.T) {
	s, at := two()
	const all = api.MaxFile - 1000
	for unit, want := range map[string]int{"%%EOF\n": 1 + all/6, "startxref 0\n%%EOF\n": 1, "startxref\n%%EOF\n": 1, fmt.Sprintf("startxref %d\n%%%%EOF\n", at): 1 + all/19, fmt.Sprintf("%%startxref %d\n%%%%EOF\n", at): 1 + all/20, "startxref 999999\n%%EOF\n": 1, "%%EOF ": 2} {
		if got := update.Revisions(s + strings.Repeat(unit, all/len(unit))); len(got) != want {
			t.Errorf("with many %q there are %d revisions, want %d", unit, len(got), want)
		}
	}
	var starts strings.Builder
	for at := range all / 24 {
		starts.WriteString(fmt.Sprintf("startxref %d\n%%%%EOF\n", at))
	}
	for _, s := range []string{starts.String(), "%PDF-1.4\n" + starts.String(), strings.Repeat("%%EOF\n", 1<<18), "%PDF-1.4\nstartxref" + strings.Repeat("\n%%EOF", 1<<17), "%PDF-1.4\nstartxref 0 " + strings.Repeat("\n%%EOF", 1<<17) + "x"} {
		if got := update.Revisions(s); len(got) > 0 {
			t.Errorf("Revisions(%s) = %v", brief(s), got)
		}
	}
}
