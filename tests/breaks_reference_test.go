package tests

import (
	"slices"

	"loop.example/g03230/impl"
)

// The reference follows the sentences of chapter 5: breakings are found by trying
// all lists of numbers of words, and put in their order by sorting them.

func refTextOk(words []int) bool {
	for _, width := range words {
		if width < 1 || width > 2000 {
			return false
		}
	}
	return len(words) >= 1 && len(words) <= 40
}

func refSetting(m impl.Measure, words []int) bool { return refMeasureOk(m) && refTextOk(words) }

// refItems returns the words with one band between neighbors.
func refItems(words []int) []int {
	items := make([]int, 0, 2*len(words))
	for i, width := range words {
		if i > 0 {
			items = append(items, 0)
		}
		items = append(items, width)
	}
	return items
}

func refRise(m impl.Measure, words []int) int {
	rise := 0
	if items := refItems(words); len(words) > 1 {
		for rise < m.Thick-m.Thin && refWidth(items, m.Thin+rise+1) <= m.Width {
			rise++
		}
	}
	return rise
}

func refKind(m impl.Measure, words []int, from, to int) int {
	if !refSetting(m, words) || from < 0 || to > len(words) || from >= to {
		return -1
	}
	line := refItems(words[from:to])
	if refWidth(line, m.Thin) > m.Width {
		return 0
	}
	rest := m.Width - refWidth(line, m.Thin+refRise(m, words[from:to]))
	if bands := to - from - 1; rest == 0 || rest < bands {
		return 2
	}
	return 1
}

// refSplits returns all lists of numbers of lines, at least 1 each, that are n
// together, in their order.
func refSplits(n int) [][]int {
	var splits [][]int
	for cuts := range 1 << (n - 1) {
		lines := []int{1}
		for i := range n - 1 {
			if cuts>>i&1 == 1 {
				lines = append(lines, 1)
			} else {
				lines[len(lines)-1]++
			}
		}
		splits = append(splits, lines)
	}
	slices.SortFunc(splits, slices.Compare)
	return splits
}

func refIsBreaking(m impl.Measure, words, lines []int) bool {
	if !refSetting(m, words) {
		return false
	}
	left := len(words)
	for i, n := range lines {
		if n < 1 || n > left {
			return false
		}
		kind := refKind(m, words, len(words)-left, len(words)-left+n)
		if kind != 2 && (kind != 1 || i < len(lines)-1) {
			return false
		}
		left -= n
	}
	return left == 0
}

func refBreakings(m impl.Measure, words []int) [][]int {
	if !refSetting(m, words) {
		return nil
	}
	return slices.DeleteFunc(refSplits(len(words)), func(lines []int) bool { return !refIsBreaking(m, words, lines) })
}

func refCost(m impl.Measure, words, lines []int) int {
	if !refIsBreaking(m, words, lines) {
		return -1
	}
	cost := 0
	for i := range lines[:len(lines)-1] {
		from := sum(lines[:i])
		rise := refRise(m, words[from:from+lines[i]])
		cost += rise * rise
	}
	return cost
}

func refIndex(breakings [][]int, lines []int) int {
	return slices.IndexFunc(breakings, func(other []int) bool { return slices.Equal(other, lines) })
}

func refAt(breakings [][]int, index int) ([]int, bool) {
	if index < 0 || index >= len(breakings) {
		return nil, false
	}
	return breakings[index], true
}

func refBest(m impl.Measure, words []int, breakings [][]int) ([]int, int, bool) {
	if len(breakings) == 0 {
		return nil, 0, false
	}
	best := breakings[0]
	for _, lines := range breakings {
		if refCost(m, words, lines) < refCost(m, words, best) {
			best = lines
		}
	}
	return best, refCost(m, words, best), true
}

func refGreedy(m impl.Measure, words []int) ([]int, bool) {
	if !refSetting(m, words) {
		return nil, false
	}
	var lines []int
	for from := 0; from < len(words); {
		n := len(words) - from
		if refKind(m, words, from, len(words)) == 0 {
			for n > 0 && refKind(m, words, from, from+n) != 2 {
				n--
			}
		}
		if n == 0 {
			return nil, false
		}
		lines = append(lines, n)
		from += n
	}
	return lines, true
}

// refForward goes from the first word on, which the program does not: it returns
// the number of breakings and the least cost, for texts of any length.
func refForward(m impl.Measure, words []int) (int, int) {
	counts, least := make([]int, len(words)+1), repeated(-1, len(words)+1)
	counts[0], least[0] = 1, 0
	for to := range counts {
		for from := range to {
			kind := refKind(m, words, from, to)
			if counts[from] == 0 || kind != 2 && (kind != 1 || to < len(words)) {
				continue
			}
			cost := least[from]
			if to < len(words) {
				rise := refRise(m, words[from:to])
				cost += rise * rise
			}
			counts[to] += counts[from]
			if least[to] < 0 || cost < least[to] {
				least[to] = cost
			}
		}
	}
	return counts[len(words)], least[len(words)]
}

func refWidthsFor(m impl.Measure, words []int, most int) []int {
	if !refSetting(m, words) || most < 0 || most > 300 {
		return nil
	}
	var widths []int
	for m.Width = 1; m.Width <= most; m.Width++ {
		if n, _ := refForward(m, words); n > 0 {
			widths = append(widths, m.Width)
		}
	}
	return widths
}
