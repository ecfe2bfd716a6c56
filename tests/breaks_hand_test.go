package tests

import (
	"slices"
	"testing"

	"loop.example/g03230/impl"
)

// The reference could share a misreading with the program: these values were
// worked out by hand from chapter 5.

func TestKindsOfLinesByHand(t *testing.T) {
	two := repeated(2, 6)
	for _, c := range []struct {
		m              impl.Measure
		words          []int
		from, to, want int
	}{
		{measure(8, 1, 4), two, 0, 1, 1}, {measure(8, 1, 4), two, 0, 2, 2}, {measure(8, 1, 4), two, 0, 3, 2}, {measure(8, 1, 4), two, 0, 4, 0},
		{measure(9, 1, 4), two, 0, 2, 1}, {measure(9, 1, 4), two, 0, 3, 2}, {measure(9, 1, 4), two, 3, 6, 2}, {measure(9, 1, 4), two, 5, 6, 1},
		{measure(12, 1, 3), two, 0, 3, 2}, {measure(13, 1, 3), two, 0, 3, 2}, {measure(14, 1, 3), two, 0, 3, 1}, {measure(7, 1, 3), two, 0, 3, 0},
		{measure(2, 1, 1), two, 5, 6, 2}, {measure(1, 1, 1), two, 5, 6, 0},
		{measure(2000, 1, 1), []int{2000}, 0, 1, 2}, {measure(1999, 1, 1), []int{2000}, 0, 1, 0}, {measure(2000, 1, 1), []int{1000, 999}, 0, 2, 2}, {measure(2000, 1, 1), []int{1000, 1000}, 0, 2, 0},
		{measure(2000, 100, 100), repeated(2000, 40), 0, 40, 0}, {measure(2000, 100, 100), repeated(2000, 40), 39, 40, 2},
		{measure(79, 1, 100), repeated(1, 40), 0, 40, 2}, {measure(78, 1, 100), repeated(1, 40), 0, 40, 0}, {measure(118, 1, 1), repeated(1, 40), 0, 40, 1}, {measure(117, 1, 1), repeated(1, 40), 0, 40, 2},
		{measure(8, 1, 4), two, -1, 2, -1}, {measure(8, 1, 4), two, 0, 7, -1}, {measure(8, 1, 4), two, 2, 2, -1}, {measure(8, 1, 4), two, 3, 2, -1}, {measure(8, 1, 4), two, 6, 6, -1}, {measure(8, 1, 4), two, 6, 7, -1},
		{measure(0, 1, 4), two, 0, 1, -1}, {measure(8, 4, 1), two, 0, 1, -1}, {measure(8, 1, 4), nil, 0, 0, -1}, {measure(8, 1, 4), nil, 0, 1, -1}, {measure(8, 1, 4), []int{2, 0}, 0, 1, -1}, {measure(8, 1, 4), []int{2, 2001}, 0, 1, -1}, {measure(8, 1, 4), repeated(2, 41), 0, 1, -1},
	} {
		if got := impl.LineKind(c.m, c.words, c.from, c.to); got != c.want {
			t.Errorf("LineKind(%+v, %v, %d, %d) = %d; want %d", c.m, c.words, c.from, c.to, got, c.want)
		}
	}
}

// known is a text for a measure with all of its breakings in their order, what
// they cost, and whether the greedy one is there.
type known struct {
	m      impl.Measure
	words  []int
	all    [][]int
	costs  []int
	greedy bool
}

func knownTexts() []known {
	m, wide := measure(8, 1, 4), measure(2000, 1, 1)
	return []known{
		{m, repeated(2, 6), [][]int{{2, 2, 2}, {2, 3, 1}, {3, 2, 1}, {3, 3}}, []int{18, 9, 9, 0}, true},
		// Two with the same least cost.
		{m, []int{2, 2, 2, 2, 2, 6}, [][]int{{2, 3, 1}, {3, 2, 1}}, []int{9, 9}, true},
		// The greedy one ends at the last 2, which is neither full nor fits with the 6.
		{m, []int{2, 2, 2, 2, 6}, [][]int{{2, 2, 1}}, []int{18}, false},
		// A last line that is full, and one that is not.
		{m, repeated(2, 4), [][]int{{2, 2}, {3, 1}}, []int{9, 0}, true},
		// All words fit in one line, but they need not be there.
		{m, repeated(2, 3), [][]int{{2, 1}, {3}}, []int{9, 0}, true},
		{m, repeated(2, 2), [][]int{{2}}, []int{0}, true},
		{m, []int{7}, [][]int{{1}}, []int{0}, true},
		{m, []int{8}, [][]int{{1}}, []int{0}, true},
		{m, []int{9}, nil, nil, false},
		// Single words that are full alone.
		{m, []int{8, 8, 8}, [][]int{{1, 1, 1}}, []int{0}, true},
		{m, []int{8, 2, 2}, [][]int{{1, 2}}, []int{0}, true},
		{m, []int{7, 2, 2}, nil, nil, false},
		{m, []int{8, 9}, nil, nil, false},
		// A rest less than the number of bands: the rise is 0 and then 2.
		{measure(9, 1, 4), repeated(2, 4), [][]int{{3, 1}}, []int{0}, true},
		{measure(13, 1, 3), repeated(2, 5), [][]int{{3, 2}, {4, 1}}, []int{4, 0}, true},
		// A rest as great as the number of bands.
		{measure(14, 1, 3), repeated(2, 6), [][]int{{4, 2}, {5, 1}}, []int{1, 0}, true},
		{wide, []int{2000}, [][]int{{1}}, []int{0}, true},
		{wide, []int{2000, 2000}, [][]int{{1, 1}}, []int{0}, true},
		{wide, []int{2000, 1}, [][]int{{1, 1}}, []int{0}, true},
		{wide, []int{1, 2000}, nil, nil, false},
		{measure(2000, 1, 100), repeated(2000, 40), [][]int{repeated(1, 40)}, []int{0}, true},
		{measure(1, 1, 100), repeated(1, 40), [][]int{repeated(1, 40)}, []int{0}, true},
		{measure(1, 1, 100), []int{2}, nil, nil, false},
		// The greatest rise.
		{measure(102, 1, 100), repeated(1, 3), [][]int{{2, 1}, {3}}, []int{9801, 0}, true},
		{measure(103, 1, 100), repeated(1, 3), [][]int{{3}}, []int{0}, true},
		// The best one costs as much as a best one can.
		{measure(2000, 1, 100), repeated(950, 40), [][]int{repeated(2, 20)}, []int{19 * 9801}, true},
	}
}

func TestBreakingsByHand(t *testing.T) {
	for _, c := range knownTexts() {
		if got := impl.CountBreakings(c.m, c.words); got != len(c.all) {
			t.Errorf("CountBreakings(%+v, %v) = %d; want %d", c.m, c.words, got, len(c.all))
		}
		for i, lines := range c.all {
			if got, ok := impl.BreakingAt(c.m, c.words, i); !ok || !slices.Equal(got, lines) {
				t.Errorf("BreakingAt(%+v, %v, %d) = %v, %v; want %v", c.m, c.words, i, got, ok, lines)
			}
			if !impl.IsBreaking(c.m, c.words, lines) || impl.BreakingIndex(c.m, c.words, lines) != i || impl.CostOf(c.m, c.words, lines) != c.costs[i] {
				t.Errorf("%v of %v for %+v has the index %d and the cost %d", lines, c.words, c.m, impl.BreakingIndex(c.m, c.words, lines), impl.CostOf(c.m, c.words, lines))
			}
		}
		for _, index := range []int{-1, len(c.all)} {
			if got, ok := impl.BreakingAt(c.m, c.words, index); ok || len(got) != 0 {
				t.Errorf("BreakingAt(%+v, %v, %d) = %v, %v", c.m, c.words, index, got, ok)
			}
		}
		checkKnownChoices(t, c)
	}
}

func checkKnownChoices(t *testing.T, c known) {
	t.Helper()
	var last, best []int
	cost := 0
	if c.greedy {
		last = c.all[len(c.all)-1]
	}
	if len(c.all) > 0 {
		cost = slices.Min(c.costs)
		best = c.all[slices.Index(c.costs, cost)]
	}
	if got, ok := impl.GreedyBreaking(c.m, c.words); ok != c.greedy || !slices.Equal(got, last) {
		t.Errorf("GreedyBreaking(%+v, %v) = %v, %v; want %v, %v", c.m, c.words, got, ok, last, c.greedy)
	}
	if got, gotCost, ok := impl.BestBreaking(c.m, c.words); ok != (len(c.all) > 0) || gotCost != cost || !slices.Equal(got, best) {
		t.Errorf("BestBreaking(%+v, %v) = %v, %d, %v; want %v, %d", c.m, c.words, got, gotCost, ok, best, cost)
	}
}

func TestNoBreakingsByHand(t *testing.T) {
	m, words := measure(8, 1, 4), repeated(2, 6)
	refuse := func(m impl.Measure, words, lines []int) {
		t.Helper()
		if impl.IsBreaking(m, words, lines) || impl.CostOf(m, words, lines) != -1 || impl.BreakingIndex(m, words, lines) != -1 {
			t.Errorf("%v is no breaking of %v for %+v", lines, words, m)
		}
	}
	for _, lines := range [][]int{nil, {}, {6}, {1, 3, 2}, {3, 1, 2}, {3, 2}, {2, 2}, {3, 3, 0}, {0, 3, 3}, {3, 0, 3}, {3, 3, 3}, {3, 4, -1}, {2, 4}, {7}, {3, 3, 1}, {-3, 3, 3, 3}} {
		refuse(m, words, lines)
	}
	for _, lines := range noBreakings(6) {
		refuse(m, words, lines)
	}
	refuse(measure(0, 1, 4), words, []int{3, 3})
	refuse(measure(8, 0, 4), words, []int{3, 3})
	refuse(measure(2001, 1, 4), []int{2}, []int{1})
	refuse(m, nil, nil)
	refuse(m, []int{0}, []int{1})
	refuse(m, []int{2, 2, 2, 0, 2, 2}, []int{3, 3})
	refuse(measure(2000, 1, 1), []int{2001}, []int{1})
	refuse(measure(1, 1, 1), repeated(1, 41), repeated(1, 41))
}

// Each line of 2 words or more of this text is full, so that its numbers of
// breakings, from one word on, are the numbers of Fibonacci: 1, 1, 2, 3, 5.
func TestGreatManyBreakingsByHand(t *testing.T) {
	m, words := measure(79, 1, 100), repeated(1, 40)
	if got := impl.CountBreakings(m, words); got != 102334155 {
		t.Errorf("%d breakings; want 102334155", got)
	}
	for _, c := range []struct {
		index, cost int
		lines       []int
	}{
		{0, 19 * 76 * 76, repeated(2, 20)},
		{1, 18*76*76 + 37*37, append(repeated(2, 18), 3, 1)},
		{2, 18 * 76 * 76, append(repeated(2, 18), 4)},
		{102333921, 0, []int{28, 12}},
		{102334153, 0, []int{39, 1}},
		{102334154, 0, []int{40}},
	} {
		if got, ok := impl.BreakingAt(m, words, c.index); !ok || !slices.Equal(got, c.lines) {
			t.Errorf("breaking %d is %v, %v; want %v", c.index, got, ok, c.lines)
		}
		if index, cost := impl.BreakingIndex(m, words, c.lines), impl.CostOf(m, words, c.lines); index != c.index || cost != c.cost {
			t.Errorf("%v has the index %d and the cost %d; want %d and %d", c.lines, index, cost, c.index, c.cost)
		}
	}
	if got, ok := impl.BreakingAt(m, words, 102334155); ok || len(got) != 0 {
		t.Errorf("the breaking behind the last one is %v", got)
	}
	if got, ok := impl.GreedyBreaking(m, words); !ok || !slices.Equal(got, []int{40}) {
		t.Errorf("the greedy one is %v, %v", got, ok)
	}
	if got, cost, ok := impl.BestBreaking(m, words); !ok || cost != 0 || !slices.Equal(got, []int{28, 12}) {
		t.Errorf("the best one is %v with the cost %d, %v", got, cost, ok)
	}
}

func TestWidthsForTextsByHand(t *testing.T) {
	behind5 := append([]int{2}, upTo(5, 296)...)
	for _, c := range []struct {
		m     impl.Measure
		words []int
		most  int
		want  []int
	}{
		{measure(8, 1, 4), []int{2, 2}, 6, []int{2, 5, 6}}, {measure(8, 1, 4), []int{2, 2}, 300, behind5}, {measure(1, 1, 4), []int{2, 2}, 4, []int{2}},
		{measure(8, 1, 4), []int{2, 2}, 0, nil}, {measure(8, 1, 4), []int{2, 2}, 1, nil}, {measure(8, 1, 4), []int{2, 2}, 2, []int{2}},
		{measure(8, 1, 4), []int{2, 2}, -1, nil}, {measure(8, 1, 4), []int{2, 2}, 301, nil},
		{measure(2000, 1, 2), []int{3, 5, 2}, 14, []int{9, 10, 12, 13, 14}},
		{measure(8, 1, 4), []int{300}, 300, []int{300}}, {measure(8, 1, 4), []int{300}, 299, nil}, {measure(8, 1, 4), []int{301}, 300, nil},
		{measure(8, 1, 4), []int{1}, 3, []int{1, 2, 3}},
		{measure(8, 1, 1), repeated(1, 40), 3, []int{1, 3}},
		{measure(0, 1, 4), []int{2, 2}, 6, nil}, {measure(8, 0, 4), []int{2, 2}, 6, nil}, {measure(8, 2, 1), []int{2, 2}, 6, nil}, {measure(2001, 1, 4), []int{2, 2}, 6, nil},
		{measure(8, 1, 4), nil, 6, nil}, {measure(8, 1, 4), []int{2, 0}, 6, nil}, {measure(8, 1, 4), []int{2001}, 6, nil}, {measure(8, 1, 4), repeated(1, 41), 6, nil},
	} {
		if got := impl.WidthsFor(c.m, c.words, c.most); !slices.Equal(got, c.want) {
			t.Errorf("WidthsFor(%+v, %v, %d) = %v; want %v", c.m, c.words, c.most, got, c.want)
		}
	}
}
