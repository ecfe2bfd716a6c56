package tests

import (
	"math/rand/v2"
	"slices"
	"testing"

	"loop.example/g03230/impl"
)

// P8 for chapter 4: every function returns what the chapter specifies.

func TestMeasures(t *testing.T) {
	widths := slices.Concat(extremes, []int{0, 1, 2, 1000, 1999, 2000, 2001})
	bands := slices.Concat(extremes, []int{0, 1, 2, 50, 99, 100, 101, 102})
	for _, width := range widths {
		for _, thin := range bands {
			for _, thick := range bands {
				m := measure(width, thin, thick)
				if got := impl.MeasureOk(m); got != refMeasureOk(m) {
					t.Errorf("MeasureOk(%+v) = %v", m, got)
				}
			}
		}
	}
	for _, m := range badMeasures() {
		if refMeasureOk(m) {
			t.Errorf("%+v is a measure", m)
		}
	}
}

func TestWhatIsALine(t *testing.T) {
	for _, line := range slices.Concat(edgeLines(), randomLines(60, 120), shortLists([]int{-1, 0, 1, 60, 61})) {
		if got := impl.LineOk(line); got != refLineOk(line) {
			t.Errorf("LineOk(%v) = %v", line, got)
		}
	}
	for _, line := range badLines() {
		if impl.LineOk(line) || refLineOk(line) {
			t.Errorf("%v is no line", line)
		}
	}
}

func TestShortLinesAtAllWidths(t *testing.T) {
	for _, line := range shortLists([]int{0, 1, 4}) {
		for width := 0; width <= 20; width++ {
			for _, bands := range [][2]int{{1, 1}, {2, 4}, {3, 3}, {1, 6}} {
				checkLine(t, measure(width, bands[0], bands[1]), line)
			}
		}
	}
}

func TestLinesAtTheirMeasures(t *testing.T) {
	random := rand.New(rand.NewPCG(1886, 8))
	for _, line := range slices.Concat(edgeLines(), randomLines(60, 12), randomLines(60, 120)) {
		for _, m := range measuresFor(random, line) {
			checkLine(t, m, line)
		}
	}
}

func TestLinesOfWhatIsNone(t *testing.T) {
	for _, m := range badMeasures() {
		for _, line := range edgeLines() {
			checkLine(t, m, line)
		}
	}
	for _, line := range badLines() {
		for _, m := range append(badMeasures(), measure(30, 2, 5), measure(2000, 1, 100), measure(2000, 1, 1)) {
			checkLine(t, m, line)
		}
	}
}

// checkLine holds all functions that are given a measure and a line alone
// against the reference.
func checkLine(t *testing.T, m impl.Measure, line []int) {
	t.Helper()
	thin, thick, ok := refWidthsOf(m, line)
	if a, b, gotOk := impl.WidthsOf(m, line); a != thin || b != thick || gotOk != ok {
		t.Errorf("WidthsOf(%+v, %v) = %d, %d, %v; want %d, %d, %v", m, line, a, b, gotOk, thin, thick, ok)
	}
	rise, rest, ok := refSpread(m, line)
	if a, b, gotOk := impl.SpreadLine(m, line); a != rise || b != rest || gotOk != ok {
		t.Errorf("SpreadLine(%+v, %v) = %d, %d, %v; want %d, %d, %v", m, line, a, b, gotOk, rise, rest, ok)
	}
	if got := impl.IsFull(m, line); got != refIsFull(m, line) {
		t.Errorf("IsFull(%+v, %v) = %v", m, line, got)
	}
	if got, want := impl.BandWidths(m, line), refBandWidths(m, line); !slices.Equal(got, want) {
		t.Errorf("BandWidths(%+v, %v) = %v; want %v", m, line, got, want)
	}
	if got, want := impl.PlacesOf(m, line), refPlaces(m, line); !slices.Equal(got, want) {
		t.Errorf("PlacesOf(%+v, %v) = %v; want %v", m, line, got, want)
	}
}

func TestFittingItems(t *testing.T) {
	random := rand.New(rand.NewPCG(1886, 9))
	lines := slices.Concat(edgeLines(), randomLines(30, 20), randomLines(20, 120))
	for i, line := range lines {
		for j, more := range slices.Concat(lines, some(badLines())) {
			for _, m := range some(measuresFor(random, line)) {
				if (i+j)%5 == 0 {
					checkFitting(t, m, line, more)
				}
			}
			both := measuresFor(random, slices.Concat(line, more))
			if len(both) > 0 {
				checkFitting(t, both[(i+j)%len(both)], line, more)
			}
		}
	}
	for _, m := range append(badMeasures(), measure(30, 2, 5), measure(2000, 1, 1)) {
		for _, line := range slices.Concat(some(badLines()), [][]int{nil, {6, 0, 6}}) {
			for _, more := range slices.Concat(some(badLines()), [][]int{nil, {0, 6}}) {
				checkFitting(t, m, line, more)
			}
		}
	}
}

func checkFitting(t *testing.T, m impl.Measure, line, more []int) {
	t.Helper()
	if got, want := impl.CountFitting(m, line, more), refCountFitting(m, line, more); got != want {
		t.Errorf("CountFitting(%+v, %v, %v) = %d; want %d", m, line, more, got, want)
	}
}

func TestBlankLetters(t *testing.T) {
	random := rand.New(rand.NewPCG(1886, 10))
	for _, line := range slices.Concat(edgeLines(), randomLines(20, 20), randomLines(10, 120), some(badLines())) {
		for _, m := range append(measuresFor(random, line), measure(30, 2, 5), measure(61+random.IntN(200), 1, 9), measure(0, 2, 5)) {
			for _, quads := range some(quadLists()) {
				checkBlanks(t, m, line, quads)
			}
		}
	}
	for _, quads := range quadLists() {
		for _, m := range append(badMeasures(), measure(14, 2, 5), measure(33, 2, 5), measure(97, 2, 5), measure(2000, 1, 1)) {
			checkBlanks(t, m, []int{6, 0, 6}, quads)
			checkBlanks(t, m, repeated(0, 118), quads)
		}
	}
}

func checkBlanks(t *testing.T, m impl.Measure, line, quads []int) {
	t.Helper()
	want, wantOk := refQuad(m, line, quads)
	if got, ok := impl.QuadLine(m, line, quads); ok != wantOk || !slices.Equal(got, want) {
		t.Errorf("QuadLine(%+v, %v, %v) = %v, %v; want %v, %v", m, line, quads, got, ok, want, wantOk)
	}
	want, wantOk = refCenter(m, line, quads)
	if got, ok := impl.CenterLine(m, line, quads); ok != wantOk || !slices.Equal(got, want) {
		t.Errorf("CenterLine(%+v, %v, %v) = %v, %v; want %v, %v", m, line, quads, got, ok, want, wantOk)
	}
}

// The reference could share a misreading with the program: these values were
// worked out by hand from the document.

func TestLinesByHand(t *testing.T) {
	for _, c := range []struct {
		m             impl.Measure
		line          []int
		rise, rest    int
		full          bool
		bands, places []int
	}{
		{measure(10, 1, 1), nil, 0, 10, false, nil, nil},
		{measure(10, 2, 4), []int{0, 0}, 2, 2, false, []int{4, 4}, []int{0, 4}},
		{measure(9, 2, 4), []int{0, 0}, 2, 1, true, []int{5, 4}, []int{0, 5}},
		{measure(8, 2, 4), []int{0, 0}, 2, 0, true, []int{4, 4}, []int{0, 4}},
		{measure(7, 2, 4), []int{0, 0}, 1, 1, true, []int{4, 3}, []int{0, 4}},
		{measure(4, 2, 4), []int{0, 0}, 0, 0, true, []int{2, 2}, []int{0, 2}},
		{measure(11, 3, 3), []int{0, 0, 0}, 0, 2, true, []int{4, 4, 3}, []int{0, 4, 8}},
		{measure(12, 3, 3), []int{0, 0, 0}, 0, 3, false, []int{3, 3, 3}, []int{0, 3, 6}},
		{measure(3, 3, 3), []int{0}, 0, 0, true, []int{3}, []int{0}},
		{measure(4, 3, 3), []int{0}, 0, 1, false, []int{3}, []int{0}},
		{measure(60, 1, 100), []int{60}, 0, 0, true, nil, []int{0}},
		{measure(61, 1, 100), []int{60}, 0, 1, false, nil, []int{0}},
		{measure(18, 100, 100), []int{6, 5, 7}, 0, 0, true, nil, []int{0, 6, 11}},
		{measure(101, 1, 100), []int{1, 0}, 99, 0, true, []int{100}, []int{0, 1}},
		{measure(102, 1, 100), []int{0, 1}, 99, 1, false, []int{100}, []int{0, 100}},
		{measure(29, 2, 5), []int{6, 0, 0, 6, 0}, 3, 2, true, []int{6, 6, 5}, []int{0, 6, 12, 18, 24}},
	} {
		rise, rest, ok := impl.SpreadLine(c.m, c.line)
		if rise != c.rise || rest != c.rest || !ok || impl.IsFull(c.m, c.line) != c.full {
			t.Errorf("%v at %+v has the rise %d and the rest %d (%v)", c.line, c.m, rise, rest, ok)
		}
		if got := impl.BandWidths(c.m, c.line); !slices.Equal(got, c.bands) {
			t.Errorf("%v at %+v has the bands %v; want %v", c.line, c.m, got, c.bands)
		}
		if got := impl.PlacesOf(c.m, c.line); !slices.Equal(got, c.places) {
			t.Errorf("%v at %+v has the places %v; want %v", c.line, c.m, got, c.places)
		}
	}
}

func TestLongestLineByHand(t *testing.T) {
	m := measure(2000, 1, 100)
	rise, rest, ok := impl.SpreadLine(m, repeated(0, 120))
	if rise != 15 || rest != 80 || !ok || !slices.Equal(impl.BandWidths(m, repeated(0, 120)), append(repeated(17, 80), repeated(16, 40)...)) {
		t.Errorf("120 bands have the rise %d and the rest %d", rise, rest)
	}
	if !impl.IsFull(measure(120, 1, 1), repeated(1, 120)) || impl.IsFull(measure(120, 1, 1), repeated(1, 121)) || impl.IsFull(measure(121, 1, 1), repeated(1, 121)) {
		t.Error("120 letters of the width 1")
	}
	if thin, thick, ok := impl.WidthsOf(m, repeated(0, 120)); thin != 120 || thick != 12000 || !ok {
		t.Errorf("120 bands are from %d to %d wide", thin, thick)
	}
	if thin, thick, ok := impl.WidthsOf(measure(1, 2, 3), repeated(60, 120)); thin != 7200 || thick != 7200 || !ok {
		t.Errorf("120 letters are from %d to %d wide", thin, thick)
	}
}

func TestLinesThatDoNotFitByHand(t *testing.T) {
	for _, c := range []struct {
		m    impl.Measure
		line []int
	}{
		{measure(3, 2, 4), []int{0, 0}}, {measure(59, 1, 1), []int{60}}, {measure(13, 2, 5), []int{6, 0, 6}}, {measure(1, 1, 1), []int{1, 1}},
		{measure(119, 1, 1), repeated(0, 120)}, {measure(2000, 100, 100), repeated(0, 21)}, {measure(2000, 1, 1), repeated(60, 34)},
		{measure(0, 1, 1), nil}, {measure(10, 2, 1), nil}, {measure(10, 1, 1), []int{61}}, {measure(200, 1, 1), []int{-1, 61}},
	} {
		rise, rest, ok := impl.SpreadLine(c.m, c.line)
		if rise != 0 || rest != 0 || ok || impl.IsFull(c.m, c.line) || len(impl.BandWidths(c.m, c.line)) != 0 || len(impl.PlacesOf(c.m, c.line)) != 0 {
			t.Errorf("%v at %+v has the rise %d and the rest %d (%v)", c.line, c.m, rise, rest, ok)
		}
		if impl.CountFitting(c.m, c.line, nil) != -1 {
			t.Errorf("%v at %+v can be extended", c.line, c.m)
		}
	}
}

func TestFittingItemsByHand(t *testing.T) {
	m := measure(30, 2, 5)
	for _, c := range []struct {
		m          impl.Measure
		line, more []int
		want       int
	}{
		{m, []int{6, 0, 6}, []int{0, 6, 9}, 2}, {m, []int{6, 0, 6}, []int{0, 6, 8}, 3}, {m, []int{6, 0, 6}, nil, 0}, {m, nil, nil, 0},
		{m, nil, []int{30}, 1}, {m, nil, []int{31, 1}, 0}, {m, []int{30}, []int{1}, 0}, {m, []int{30}, []int{0}, 0}, {m, []int{28}, []int{0, 0}, 1}, {m, []int{29}, []int{2, 1}, 0},
		{measure(2000, 1, 1), repeated(1, 119), []int{0, 0}, 1}, {measure(2000, 1, 1), repeated(1, 120), []int{0, 0}, 0}, {measure(2000, 1, 1), repeated(0, 60), repeated(1, 120), 60}, {measure(2000, 1, 1), nil, repeated(1, 120), 120},
		{m, []int{31}, nil, -1}, {m, nil, []int{61}, -1}, {m, nil, []int{5, -1}, -1}, {m, nil, repeated(1, 121), -1}, {measure(2000, 1, 1), repeated(1, 121), nil, -1}, {measure(30, 0, 5), nil, nil, -1},
	} {
		if got := impl.CountFitting(c.m, c.line, c.more); got != c.want {
			t.Errorf("CountFitting(%+v, %v, %v) = %d; want %d", c.m, c.line, c.more, got, c.want)
		}
	}
}

func TestBlankLettersByHand(t *testing.T) {
	m, wide := measure(30, 2, 5), measure(2000, 1, 1)
	line := []int{6, 0, 6}
	eight := []int{8, 7, 6, 5, 4, 3, 2, 1}
	for _, c := range []struct {
		m              impl.Measure
		line, quads    []int
		behind, around []int
	}{
		{m, line, []int{7, 3}, []int{6, 0, 6, 7, 7}, []int{7, 6, 0, 6, 7}},
		{m, line, []int{5, 2}, []int{6, 0, 6, 5, 5, 5}, []int{2, 5, 6, 0, 6, 5, 2}},
		{m, line, []int{16}, []int{6, 0, 6, 16}, line},
		{m, line, []int{17}, line, line},
		{m, line, []int{8}, []int{6, 0, 6, 8, 8}, []int{8, 6, 0, 6, 8}},
		{m, line, []int{9}, []int{6, 0, 6, 9}, line},
		{m, line, []int{9, 6}, []int{6, 0, 6, 9, 6}, []int{6, 6, 0, 6, 6}},
		{measure(29, 2, 5), line, eight, []int{6, 0, 6, 8, 7}, []int{7, 6, 0, 6, 7}},
		{measure(15, 2, 5), line, []int{1}, []int{6, 0, 6, 1}, line},
		{measure(14, 2, 5), line, []int{1}, line, line},
		{measure(20, 1, 1), []int{4}, []int{5, 2}, []int{4, 5, 5, 5}, []int{2, 5, 4, 5, 2}},
		{measure(5, 1, 1), nil, []int{2, 1}, []int{2, 2, 1}, []int{2, 2}},
		{wide, nil, []int{1}, repeated(1, 120), repeated(1, 120)},
		{wide, repeated(1, 119), []int{60, 1}, append(repeated(1, 119), 60), repeated(1, 119)},
		{wide, repeated(1, 120), []int{60, 1}, repeated(1, 120), repeated(1, 120)},
		{wide, nil, []int{60, 1}, append(repeated(60, 33), repeated(1, 20)...), slices.Concat(repeated(1, 40), repeated(60, 32), repeated(1, 40))},
	} {
		checkFilled(t, "behind", impl.QuadLine, c.m, c.line, c.quads, c.behind)
		checkFilled(t, "around", impl.CenterLine, c.m, c.line, c.quads, c.around)
	}
}

func checkFilled(t *testing.T, where string, fill func(impl.Measure, []int, []int) ([]int, bool), m impl.Measure, line, quads, want []int) {
	t.Helper()
	if got, ok := fill(m, line, quads); !ok || !slices.Equal(got, want) {
		t.Errorf("blank letters of %v %s %v at %+v: %v, %v; want %v", quads, where, line, m, got, ok, want)
	}
}

func TestRefusedBlankLettersByHand(t *testing.T) {
	m := measure(30, 2, 5)
	refuse := func(m impl.Measure, line, quads []int) {
		t.Helper()
		if got, ok := impl.QuadLine(m, line, quads); ok || len(got) != 0 {
			t.Errorf("QuadLine(%+v, %v, %v) = %v, %v", m, line, quads, got, ok)
		}
		if got, ok := impl.CenterLine(m, line, quads); ok || len(got) != 0 {
			t.Errorf("CenterLine(%+v, %v, %v) = %v, %v", m, line, quads, got, ok)
		}
	}
	for _, quads := range [][]int{nil, {}, {0}, {61}, {-1}, {1, 2}, {2, 2}, {3, 1, 2}, {5, 0}, {9, 8, 7, 6, 5, 4, 3, 2, 1}} {
		refuse(m, []int{6, 0, 6}, quads)
		refuse(m, nil, quads)
	}
	refuse(m, []int{31}, []int{1})
	refuse(m, []int{6, 61}, []int{1})
	refuse(measure(2000, 1, 1), repeated(1, 121), []int{1})
	refuse(measure(30, 6, 5), []int{6}, []int{1})
	refuse(measure(2001, 2, 5), []int{6}, []int{1})
}
