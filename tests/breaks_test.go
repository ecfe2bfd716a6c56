package tests

import (
	"math/rand/v2"
	"slices"
	"testing"

	"loop.example/g03230/impl"
)

// P8 for chapter 5: every function returns what the chapter specifies.

func TestWhatIsAText(t *testing.T) {
	texts := slices.Concat(shortTexts(), longTexts(), randomTexts(30, 1, 40), shortLists([]int{-1, 0, 1, 2000, 2001}))
	for _, words := range texts {
		if got := impl.TextOk(words); got != refTextOk(words) {
			t.Errorf("TextOk(%v) = %v", words, got)
		}
	}
	for _, words := range badTexts() {
		if impl.TextOk(words) || refTextOk(words) {
			t.Errorf("%v is no text", words)
		}
	}
}

func TestKindsOfLines(t *testing.T) {
	random := rand.New(rand.NewPCG(1886, 16))
	for _, words := range slices.Concat(shortTexts(), some(longTexts()), some(badTexts())) {
		measures := append(some(badMeasures()), measure(8, 1, 4), measure(2000, 1, 100))
		if refTextOk(words) {
			measures = append(measures, some(measuresForText(random, words))...)
		}
		for _, m := range measures {
			for from := -1; from <= min(len(words), 41)+1; from++ {
				for to := -1; to <= min(len(words), 41)+1; to++ {
					checkKind(t, m, words, from, to)
				}
			}
		}
	}
	for _, n := range extremes {
		for _, other := range append(extremes, 0, 1, 5, 6, 7) {
			checkKind(t, measure(8, 1, 4), repeated(2, 6), n, other)
			checkKind(t, measure(8, 1, 4), repeated(2, 6), other, n)
		}
	}
}

func checkKind(t *testing.T, m impl.Measure, words []int, from, to int) {
	t.Helper()
	if got, want := impl.LineKind(m, words, from, to), refKind(m, words, from, to); got != want {
		t.Errorf("LineKind(%+v, %v, %d, %d) = %d; want %d", m, words, from, to, got, want)
	}
}

func TestShortTexts(t *testing.T) {
	random := rand.New(rand.NewPCG(1886, 17))
	for _, words := range slices.Concat(shortTexts(), randomTexts(40, 1, 9)) {
		for _, m := range append(measuresForText(random, words), measure(8, 1, 4), measure(9, 1, 4), measure(79, 1, 100)) {
			breakings := refBreakings(m, words)
			checkBreakings(t, m, words, breakings)
			checkChosen(t, m, words, breakings)
			for _, lines := range append(refSplits(len(words)), noBreakings(len(words))...) {
				checkLines(t, m, words, lines, breakings)
			}
		}
	}
}

func TestTextsOfTinyWordsAtAllWidths(t *testing.T) {
	for _, words := range shortLists([]int{1, 2, 4}) {
		for width := 0; width <= 18; width++ {
			for _, bands := range [][2]int{{1, 1}, {1, 3}, {2, 4}, {3, 2}} {
				m := measure(width, bands[0], bands[1])
				breakings := refBreakings(m, words)
				checkBreakings(t, m, words, breakings)
				checkChosen(t, m, words, breakings)
			}
		}
	}
}

// checkBreakings holds the numbers of all breakings against the reference.
func checkBreakings(t *testing.T, m impl.Measure, words []int, breakings [][]int) {
	t.Helper()
	want := len(breakings)
	if !refSetting(m, words) {
		want = -1
	}
	if got := impl.CountBreakings(m, words); got != want {
		t.Errorf("CountBreakings(%+v, %v) = %d; want %d", m, words, got, want)
	}
	for _, index := range append(upTo(-2, len(breakings)+4), extremes...) {
		want, wantOk := refAt(breakings, index)
		if got, ok := impl.BreakingAt(m, words, index); ok != wantOk || !slices.Equal(got, want) {
			t.Errorf("BreakingAt(%+v, %v, %d) = %v, %v; want %v, %v", m, words, index, got, ok, want, wantOk)
		}
	}
}

// checkChosen holds the greedy breaking and the best one against the reference.
func checkChosen(t *testing.T, m impl.Measure, words []int, breakings [][]int) {
	t.Helper()
	want, wantOk := refGreedy(m, words)
	if got, ok := impl.GreedyBreaking(m, words); ok != wantOk || !slices.Equal(got, want) {
		t.Errorf("GreedyBreaking(%+v, %v) = %v, %v; want %v, %v", m, words, got, ok, want, wantOk)
	}
	best, cost, bestOk := refBest(m, words, breakings)
	if got, gotCost, ok := impl.BestBreaking(m, words); ok != bestOk || gotCost != cost || !slices.Equal(got, best) {
		t.Errorf("BestBreaking(%+v, %v) = %v, %d, %v; want %v, %d, %v", m, words, got, gotCost, ok, best, cost, bestOk)
	}
}

// checkLines holds the functions that are given a list of numbers of words
// against the reference.
func checkLines(t *testing.T, m impl.Measure, words, lines []int, breakings [][]int) {
	t.Helper()
	if got, want := impl.IsBreaking(m, words, lines), refIsBreaking(m, words, lines); got != want {
		t.Errorf("IsBreaking(%+v, %v, %v) = %v; want %v", m, words, lines, got, want)
	}
	if got, want := impl.CostOf(m, words, lines), refCost(m, words, lines); got != want {
		t.Errorf("CostOf(%+v, %v, %v) = %d; want %d", m, words, lines, got, want)
	}
	if got, want := impl.BreakingIndex(m, words, lines), refIndex(breakings, lines); got != want {
		t.Errorf("BreakingIndex(%+v, %v, %v) = %d; want %d", m, words, lines, got, want)
	}
}

func TestLongTexts(t *testing.T) {
	random := rand.New(rand.NewPCG(1886, 18))
	for _, words := range longTexts() {
		for _, m := range measuresForText(random, words) {
			count, least := refForward(m, words)
			if got := impl.CountBreakings(m, words); got != count {
				t.Errorf("CountBreakings(%+v, %v) = %d; want %d", m, words, got, count)
			}
			lines, cost, ok := impl.BestBreaking(m, words)
			if ok != (count > 0) || ok && (cost != least || refCost(m, words, lines) != least) || !ok && (cost != 0 || len(lines) != 0) {
				t.Errorf("BestBreaking(%+v, %v) = %v, %d, %v; want the cost %d", m, words, lines, cost, ok, least)
			}
			want, wantOk := refGreedy(m, words)
			if got, ok := impl.GreedyBreaking(m, words); ok != wantOk || !slices.Equal(got, want) {
				t.Errorf("GreedyBreaking(%+v, %v) = %v, %v; want %v, %v", m, words, got, ok, want, wantOk)
			}
			for _, index := range append(extremes, count, count+1) {
				if got, ok := impl.BreakingAt(m, words, index); (index < 0 || index >= count) && (ok || len(got) != 0) {
					t.Errorf("BreakingAt(%+v, %v, %d) = %v, %v of %d", m, words, index, got, ok, count)
				}
			}
			for _, lines := range some(noBreakings(len(words))) {
				if impl.IsBreaking(m, words, lines) || impl.CostOf(m, words, lines) != -1 || impl.BreakingIndex(m, words, lines) != -1 {
					t.Errorf("%v is no breaking of %v for %+v", lines, words, m)
				}
			}
		}
	}
}

func TestWidthsForTexts(t *testing.T) {
	random := rand.New(rand.NewPCG(1886, 19))
	for _, words := range slices.Concat(shortTexts(), randomTexts(12, 1, 9)) {
		for _, m := range append(some(measuresForText(random, words)), measure(8, 1, 4), measure(2000, 3, 3), measure(1, 1, 100)) {
			checkWidths(t, m, words, random.IntN(60))
		}
	}
	for _, words := range append(some(longTexts()), repeated(1, 40)) {
		checkWidths(t, measure(1+random.IntN(2000), 1, 1+random.IntN(100)), words, 120+random.IntN(60))
	}
	for _, most := range append(extremes, 0, 1, 2, 5, 299, 300, 301) {
		for _, words := range [][]int{{2, 2}, {300}, {299, 2}, {301}, nil, {0}} {
			checkWidths(t, measure(8, 1, 4), words, most)
			checkWidths(t, measure(0, 1, 4), words, most)
		}
	}
}

func checkWidths(t *testing.T, m impl.Measure, words []int, most int) {
	t.Helper()
	if got, want := impl.WidthsFor(m, words, most), refWidthsFor(m, words, most); !slices.Equal(got, want) {
		t.Errorf("WidthsFor(%+v, %v, %d) = %v; want %v", m, words, most, got, want)
	}
}

func TestBreaksOfWhatIsNone(t *testing.T) {
	refuse := func(m impl.Measure, words []int) {
		t.Helper()
		checkBreakings(t, m, words, nil)
		checkChosen(t, m, words, nil)
		for _, lines := range [][]int{nil, {}, {1}, {len(words)}, repeated(1, len(words)), {2, 2, 2}, {0}, {-1}} {
			checkLines(t, m, words, lines, nil)
		}
		for _, most := range []int{-1, 0, 1, 40, 300} {
			checkWidths(t, m, words, most)
		}
	}
	for _, m := range badMeasures() {
		for _, words := range append(shortTexts(), repeated(1, 40), nil) {
			refuse(m, words)
		}
	}
	for _, words := range badTexts() {
		for _, m := range append(some(badMeasures()), measure(8, 1, 4), measure(2000, 1, 1), measure(2000, 1, 100)) {
			refuse(m, words)
		}
	}
}
