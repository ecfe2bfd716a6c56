package tests

import (
	"math/rand/v2"
	"slices"
	"testing"

	"loop.example/g03230/impl"
)

// P3. A full line is exactly as wide as its measure, with bands that differ by at
// most 1, and blank letters are added as long as one has room.

// rightEnd returns how far the right side of the last item is from the left side
// of the line.
func rightEnd(line, bands, places []int) int {
	last := len(line) - 1
	if line[last] == 0 {
		return places[last] + bands[len(bands)-1]
	}
	return places[last] + line[last]
}

func TestFullLinesAreAsWideAsTheirMeasure(t *testing.T) {
	random := rand.New(rand.NewPCG(1886, 11))
	seen := map[string]int{}
	for _, line := range slices.Concat(edgeLines(), randomLines(150, 12), randomLines(150, 120)) {
		for _, m := range measuresFor(random, line) {
			least, most, _ := impl.WidthsOf(m, line)
			rise, rest, fits := impl.SpreadLine(m, line)
			if fits != (least <= m.Width) {
				t.Fatalf("%v fits %+v: %v", line, m, fits)
			}
			if !fits || len(line) == 0 {
				seen["no place"]++
				continue
			}
			bands, places := impl.BandWidths(m, line), impl.PlacesOf(m, line)
			end := rightEnd(line, bands, places)
			if impl.IsFull(m, line) {
				checkFull(t, m, line, end)
				seen["full"]++
				continue
			}
			if end != m.Width-rest || rest < 1 || len(bands) > 0 && (rise != m.Thick-m.Thin || end != most) {
				t.Errorf("%v ends at %d with the rest %d at %+v, which it does not fill", line, end, rest, m)
			}
			seen["not full"]++
		}
	}
	for _, name := range []string{"no place", "full", "not full"} {
		if seen[name] < 100 {
			t.Errorf("only %d lines are %s", seen[name], name)
		}
	}
}

func checkFull(t *testing.T, m impl.Measure, line []int, end int) {
	t.Helper()
	if end != m.Width {
		t.Errorf("%v is full but ends at %d at %+v", line, end, m)
	}
	bands := impl.BandWidths(m, line)
	if len(bands) == 0 {
		return
	}
	if first, last := bands[0], bands[len(bands)-1]; first-last < 0 || first-last > 1 || last < m.Thin || first > m.Thick+1 {
		t.Errorf("%v at %+v has the bands %v", line, m, bands)
	}
	if !slices.IsSortedFunc(bands, func(a, b int) int { return b - a }) {
		t.Errorf("the first bands of %v are not the wider ones: %v", line, bands)
	}
}

func TestPlacesFollowEachOther(t *testing.T) {
	random := rand.New(rand.NewPCG(1886, 12))
	for _, line := range randomLines(100, 60) {
		for _, m := range measuresFor(random, line) {
			places := impl.PlacesOf(m, line)
			bands := impl.BandWidths(m, line)
			for i, place := range places {
				if i == 0 && place != 0 || i > 0 && place != rightEnd(line[:i], bands[:refBands(line[:i])], places) {
					t.Fatalf("item %d of %v is at %d", i, line, place)
				}
			}
		}
	}
}

func TestBlankLettersAreAddedAsLongAsOneHasRoom(t *testing.T) {
	random := rand.New(rand.NewPCG(1886, 13))
	added := 0
	for _, line := range slices.Concat(edgeLines(), randomLines(40, 20), randomLines(20, 120)) {
		for _, m := range measuresFor(random, line) {
			for _, quads := range [][]int{{1}, {60}, {7, 3}, {60, 20, 5, 2}, {8, 7, 6, 5, 4, 3, 2, 1}} {
				behind, ok := impl.QuadLine(m, line, quads)
				around, fine := impl.CenterLine(m, line, quads)
				if _, _, fits := impl.SpreadLine(m, line); ok != fits || fine != fits {
					t.Fatalf("blank letters of %v for %v at %+v: %v, %v", quads, line, m, ok, fine)
				}
				if ok {
					checkAddedBehind(t, m, line, quads, behind)
					checkAddedAround(t, m, line, quads, around)
					added += len(behind) - len(line)
				}
			}
		}
	}
	if added < 1000 {
		t.Errorf("only %d blank letters were added", added)
	}
}

// areBlanks reports whether the widths are among quads, the widest ones first.
func areBlanks(widths, quads []int) bool {
	return !slices.ContainsFunc(widths, func(w int) bool { return !slices.Contains(quads, w) }) &&
		slices.IsSortedFunc(widths, func(a, b int) int { return b - a })
}

func checkAddedBehind(t *testing.T, m impl.Measure, line, quads, filled []int) {
	t.Helper()
	n := len(line)
	if len(filled) < n || !slices.Equal(filled[:n], line) || !areBlanks(filled[n:], quads) {
		t.Fatalf("%v behind %v gave %v", quads, line, filled)
	}
	for _, width := range quads {
		if impl.CountFitting(m, filled, []int{width}) != 0 {
			t.Errorf("%d has room behind %v at %+v", width, filled, m)
		}
	}
}

func checkAddedAround(t *testing.T, m impl.Measure, line, quads, filled []int) {
	t.Helper()
	n := (len(filled) - len(line)) / 2
	before, behind := slices.Clone(filled[:n]), filled[len(filled)-n:]
	slices.Reverse(before)
	if !slices.Equal(filled[n:len(filled)-n], line) || !slices.Equal(before, behind) || !areBlanks(behind, quads) {
		t.Fatalf("%v around %v gave %v", quads, line, filled)
	}
	if impl.CountFitting(m, filled, nil) != 0 {
		t.Fatalf("%v does not fit %+v", filled, m)
	}
	for _, width := range quads {
		if impl.CountFitting(m, filled, []int{width, width}) == 2 {
			t.Errorf("a pair of %d has room around %v at %+v", width, filled, m)
		}
	}
}
