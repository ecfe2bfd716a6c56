package tests

import (
	"math/rand/v2"
	"slices"
	"testing"

	"loop.example/g03230/impl"
)

// P4. Breakings are counted, numbered and told in their order; the greedy one is
// the last, and none costs less than the best one.

// looked is how many breakings of a text are looked at one by one.
const looked = 60

// indicesOf returns all numbers of breakings if they are few, and otherwise the
// first ones, the last ones and some between, in ascending order.
func indicesOf(random *rand.Rand, count int) []int {
	if count <= looked {
		return upTo(0, count)
	}
	indices := append(upTo(0, 10), upTo(count-10, 10)...)
	for range 20 {
		at := random.IntN(count - 1)
		indices = append(indices, at, at+1)
	}
	slices.Sort(indices)
	return slices.Compact(indices)
}

func TestBreakingsAreNumberedInTheirOrder(t *testing.T) {
	random := rand.New(rand.NewPCG(1886, 20))
	seen := map[string]int{}
	for _, words := range slices.Concat(shortTexts(), randomTexts(50, 1, 40), longTexts()) {
		for _, m := range append(measuresForText(random, words), measure(79, 1, 100)) {
			count := impl.CountBreakings(m, words)
			checkBehindTheLast(t, m, words, count)
			checkOrder(t, m, words, indicesOf(random, count))
			checkLast(t, m, words, count, seen)
			checkBest(t, m, words, indicesOf(random, count))
			seen[classOf(count)]++
		}
	}
	checkSeen(t, seen, "none", "one", "some", "many", "greedy", "greedy without an end")
}

func classOf(count int) string {
	switch {
	case count == 0:
		return "none"
	case count == 1:
		return "one"
	case count <= looked:
		return "some"
	}
	return "many"
}

func checkBehindTheLast(t *testing.T, m impl.Measure, words []int, count int) {
	t.Helper()
	for _, index := range []int{-1, count, count + 1} {
		if lines, ok := impl.BreakingAt(m, words, index); ok || len(lines) != 0 {
			t.Errorf("of %d breakings of %v for %+v, %d is %v", count, words, m, index, lines)
		}
	}
}

func checkOrder(t *testing.T, m impl.Measure, words []int, indices []int) {
	t.Helper()
	var before []int
	for _, index := range indices {
		lines, ok := impl.BreakingAt(m, words, index)
		if !ok || !impl.IsBreaking(m, words, lines) || impl.BreakingIndex(m, words, lines) != index {
			t.Fatalf("breaking %d of %v for %+v is %v, %v", index, words, m, lines, ok)
		}
		if index > 0 && slices.Compare(before, lines) >= 0 {
			t.Fatalf("breaking %d of %v for %+v is %v, before it %v", index, words, m, lines, before)
		}
		before = lines
		checkLinesAreFull(t, m, words, lines)
	}
}

func checkLinesAreFull(t *testing.T, m impl.Measure, words, lines []int) {
	t.Helper()
	from := 0
	for i, n := range lines {
		kind := impl.LineKind(m, words, from, from+n)
		if from += n; kind != 2 && (kind != 1 || i < len(lines)-1) {
			t.Fatalf("line %d of %v is of the kind %d: %v for %+v", i, lines, kind, words, m)
		}
	}
	if from != len(words) {
		t.Fatalf("%v does not have all words of %v", lines, words)
	}
}

// checkLast counts, too, the texts that have breakings but no greedy one.
func checkLast(t *testing.T, m impl.Measure, words []int, count int, seen map[string]int) {
	t.Helper()
	greedy, ok := impl.GreedyBreaking(m, words)
	if !ok {
		if count > 0 {
			seen["greedy without an end"]++
		}
		return
	}
	seen["greedy"]++
	last, lastOk := impl.BreakingAt(m, words, count-1)
	if !lastOk || !slices.Equal(greedy, last) || impl.BreakingIndex(m, words, greedy) != count-1 {
		t.Errorf("the greedy breaking of %v for %+v is %v, the last of %d %v", words, m, greedy, count, last)
	}
}

func checkBest(t *testing.T, m impl.Measure, words []int, indices []int) {
	t.Helper()
	best, cost, ok := impl.BestBreaking(m, words)
	if ok != (len(indices) > 0) {
		t.Fatalf("the best breaking of %v for %+v is %v, %v", words, m, best, ok)
	}
	if !ok {
		return
	}
	if !impl.IsBreaking(m, words, best) || impl.CostOf(m, words, best) != cost {
		t.Fatalf("the best breaking of %v for %+v is %v with the cost %d", words, m, best, cost)
	}
	place := impl.BreakingIndex(m, words, best)
	for _, index := range indices {
		lines, _ := impl.BreakingAt(m, words, index)
		other := impl.CostOf(m, words, lines)
		if other < cost || other == cost && index < place {
			t.Errorf("%v of %v for %+v has the cost %d, and the best one, %v, has %d", lines, words, m, other, best, cost)
		}
	}
}

func TestMeasuresWithBreakingsAreTold(t *testing.T) {
	random := rand.New(rand.NewPCG(1886, 21))
	for _, words := range append(randomTexts(25, 1, 40), shortTexts()...) {
		m := measure(1, 1+random.IntN(4), 5+random.IntN(30))
		most := random.IntN(301)
		told := impl.WidthsFor(m, words, most)
		var want []int
		for width := 1; width <= most; width++ {
			if impl.CountBreakings(measure(width, m.Thin, m.Thick), words) > 0 {
				want = append(want, width)
			}
		}
		if !slices.Equal(told, want) {
			t.Errorf("WidthsFor(%+v, %v, %d) = %v; want %v", m, words, most, told, want)
		}
	}
}
