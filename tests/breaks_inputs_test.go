package tests

import (
	"math"
	"math/rand/v2"
	"slices"

	"loop.example/g03230/impl"
)

// shortTexts returns texts short enough to try all lists of numbers of words, the
// ones that chapter 5 names among them: of one word, of a word as wide as
// MaxMeasure, and ones that the tests by hand use.
func shortTexts() [][]int {
	return [][]int{
		{1}, {5}, {60}, {61}, {1999}, {2000},
		{2, 2}, {2000, 2000}, {2000, 1}, {1, 2000}, {1000, 999}, {2000, 1, 2000},
		{2, 2, 2, 2, 2, 2}, {2, 2, 2, 2, 2, 6}, {2, 2, 2, 2, 6}, {3, 5, 2}, {8, 8, 8}, {8, 2, 2},
		repeated(1, 9), repeated(70, 7), {1, 2, 3, 4, 5, 6, 7, 8}, {8, 7, 6, 5, 4, 3, 2, 1},
	}
}

// longTexts returns texts of up to MaxWords words, of many breakings and of few.
func longTexts() [][]int {
	steps := make([]int, 40)
	for i := range steps {
		steps[i] = 1 + i%7
	}
	return append(randomTexts(25, 30, 40), repeated(1, 40), repeated(1, 39), repeated(2000, 40), repeated(50, 40), steps)
}

func randomTexts(n, shortest, longest int) [][]int {
	random := rand.New(rand.NewPCG(1886, 15))
	texts := make([][]int, n)
	for i := range texts {
		widest := []int{1, 3, 8, 60, 300, 2000}[random.IntN(6)]
		for range shortest + random.IntN(longest-shortest+1) {
			texts[i] = append(texts[i], 1+random.IntN(widest))
		}
	}
	return texts
}

// badTexts returns what chapter 5 names as no text, each with one fault.
func badTexts() [][]int {
	bad := [][]int{nil, {}, repeated(1, 41), repeated(2000, 41), repeated(1, 1000), {0}, {2001}, {2, 0, 2}, {0, 2}, {2, 2001}, {2, -1, 2}, append(repeated(1, 39), 0)}
	for _, n := range extremes {
		if n < 1 || n > 2000 {
			bad = append(bad, []int{n}, []int{n, 2, 2}, []int{2, 2, n}, []int{2, n, -n}, append(repeated(1, 39), n))
		}
	}
	return bad
}

// measuresForText returns measures at which some line of the text is full, or
// just too narrow or too wide, and ones at which all or none of it fits.
func measuresForText(random *rand.Rand, words []int) []impl.Measure {
	var list []impl.Measure
	thin := 1 + random.IntN(5)
	for _, bands := range [][2]int{{1, 1}, {1, 100}, {thin, thin + random.IntN(4)}, {thin, thin + random.IntN(40)}} {
		all := refItems(words)
		widths := []int{1, 2000, refWidth(all, bands[0]) - 1, refWidth(all, bands[0]), refWidth(all, bands[1]), slices.Max(words), slices.Max(words) + 1}
		for range 4 {
			from := random.IntN(len(words))
			line := refItems(words[from : from+1+random.IntN(min(6, len(words)-from))])
			least, most := refWidth(line, bands[0]), refWidth(line, bands[1])+refBands(line)
			widths = append(widths, least-1, least, most-1, most, least+random.IntN(most-least+1))
		}
		slices.Sort(widths)
		for _, width := range slices.Compact(widths) {
			if m := measure(width, bands[0], bands[1]); refMeasureOk(m) {
				list = append(list, m)
			}
		}
	}
	return list
}

// noBreakings returns lists of numbers that are no breaking of a text of n words,
// sums that go beyond int and come back among them.
func noBreakings(n int) [][]int {
	lists := [][]int{
		nil, {}, {0}, {0, n}, {n, 0}, {n + 1}, {n, 1}, {n + 1, -1}, {-1, n + 1}, {-n}, repeated(1, n+1), repeated(0, 50),
		{math.MaxInt, math.MaxInt, n + 2}, {n, math.MaxInt, math.MinInt, 1}, {1, math.MaxInt, math.MinInt, n}, {math.MinInt, math.MinInt, n}, append(repeated(1<<62, 4), n),
	}
	for _, x := range extremes {
		lists = append(lists, []int{x}, []int{x, n - x}, []int{1, x}, []int{n, x}, []int{n - x, x})
	}
	return slices.DeleteFunc(lists, func(lines []int) bool {
		return slices.Equal(lines, []int{n})
	})
}
