package tests

import (
	"math/rand/v2"
	"slices"

	"loop.example/g03230/impl"
)

func measure(width, thin, thick int) impl.Measure {
	return impl.Measure{Width: width, Thin: thin, Thick: thick}
}

// badMeasures returns what chapter 4 names as no measure, each with one fault.
func badMeasures() []impl.Measure {
	bad := []impl.Measure{{}, measure(0, 2, 5), measure(2001, 2, 5), measure(30, 0, 5), measure(30, 6, 5), measure(30, 100, 99), measure(30, 2, 101), measure(30, 101, 101), measure(30, -1, 5), measure(-30, 2, 5), measure(30, 0, 0)}
	for _, n := range extremes {
		if n < 1 || n > 2000 {
			bad = append(bad, measure(n, 2, 5))
		}
		bad = append(bad, measure(30, n, n), measure(30, n, n+1), measure(n, n, n))
		if n < 2 || n > 100 {
			bad = append(bad, measure(30, 2, n))
		}
	}
	return bad
}

// badLines returns what chapter 4 names as no line, each with one fault.
func badLines() [][]int {
	bad := [][]int{repeated(1, 121), repeated(0, 121), repeated(1, 1000), {61}, {6, 0, 61}, {61, 0, 6}, {6, -1, 6}}
	for _, n := range extremes {
		bad = append(bad, []int{n}, []int{n, 0, 6}, []int{6, 0, n}, []int{6, n, -n}, append(repeated(1, 119), n))
	}
	return bad
}

// edgeLines returns what chapter 4 names: the empty line, lines of bands alone
// and without bands, and lines of MaxItems items.
func edgeLines() [][]int {
	mixed := repeated(1, 120)
	for i := 1; i < len(mixed); i += 2 {
		mixed[i] = 0
	}
	return [][]int{
		nil, {}, {0}, {0, 0}, repeated(0, 7), {1}, {60}, {6, 6, 6}, repeated(60, 33),
		{6, 0}, {0, 6}, {0, 6, 0}, {6, 0, 0, 6}, {60, 0, 1}, {6, 0, 6, 0, 6}, {0, 0, 5, 0, 1, 1, 0},
		repeated(0, 19), repeated(0, 20), repeated(1, 119), repeated(1, 120), repeated(16, 120), repeated(0, 119), repeated(0, 120), mixed, mixed[:119],
	}
}

func randomLines(n int, longest int) [][]int {
	random := rand.New(rand.NewPCG(1886, 7))
	lines := make([][]int, n)
	for i := range lines {
		widest := 1 + random.IntN(60)
		bandsIn := 1 + random.IntN(5)
		for range random.IntN(longest + 1) {
			item := 1 + random.IntN(widest)
			if random.IntN(bandsIn) == 0 {
				item = 0
			}
			lines[i] = append(lines[i], item)
		}
	}
	return lines
}

// measuresFor returns measures from those in which the line does not fit by 1
// to those with room left at the thickest bands, the thinnest one as thick as
// the thickest one among them.
func measuresFor(random *rand.Rand, line []int) []impl.Measure {
	var list []impl.Measure
	thin := 1 + random.IntN(6)
	for _, bands := range [][2]int{{1, 1}, {1, 100}, {100, 100}, {thin, thin}, {thin, thin + 1}, {thin, thin + random.IntN(95)}} {
		least, most := refWidth(line, bands[0]), refWidth(line, bands[1])
		n := refBands(line)
		widths := []int{1, 2000, least - 1, least, least + 1, least + n - 1, least + n, most - 1, most, most + 1, most + n - 1, most + n, most + n + 1}
		if most > least {
			widths = append(widths, least+random.IntN(most-least), least+random.IntN(most-least))
		}
		slices.Sort(widths)
		for _, width := range slices.Compact(widths) {
			if m := measure(width, bands[0], bands[1]); refMeasureOk(m) {
				list = append(list, m)
			}
		}
	}
	return list
}

// quadLists returns lists of widths of blank letters, the longest and the
// shortest ones, and what is none.
func quadLists() [][]int {
	lists := [][]int{
		{1}, {2}, {7}, {60}, {7, 3}, {5, 2}, {2, 1}, {60, 1}, {60, 59}, {8, 7, 6, 5, 4, 3, 2, 1}, {60, 50, 40, 30, 20, 10, 5, 1}, {60, 59, 58, 57, 56, 55, 54, 53},
		nil, {}, {9, 8, 7, 6, 5, 4, 3, 2, 1}, {0}, {61}, {-1}, {1, 2}, {2, 2}, {3, 1, 2}, {3, 1, 1}, {3, 3, 1}, {5, 0}, {5, 3, -1}, {61, 5}, {8, 7, 6, 5, 4, 3, 2, 2}, {7, 8, 6, 5},
	}
	for _, n := range extremes {
		lists = append(lists, []int{n}, []int{n, 1}, []int{5, n}, []int{7, n, 3})
	}
	return lists
}
