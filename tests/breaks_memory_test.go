package tests

import (
	"math/rand/v2"
	"slices"
	"testing"

	"loop.example/g03230/impl"
)

// P8 with chapter 1, for chapter 5: texts and breakings stay as they are, with
// what is behind them, and results share no memory.

func breakCalls(m impl.Measure, words, lines []int) map[string]func() []int {
	return map[string]func() []int{
		"GreedyBreaking": func() []int {
			greedy, _ := impl.GreedyBreaking(m, words)
			return greedy
		},
		"BreakingAt the first place": func() []int {
			first, _ := impl.BreakingAt(m, words, 0)
			return first
		},
		"BreakingAt the last place": func() []int {
			last, _ := impl.BreakingAt(m, words, impl.CountBreakings(m, words)-1)
			return last
		},
		"BestBreaking": func() []int {
			best, cost, _ := impl.BestBreaking(m, words)
			return append(best, cost)
		},
		"BestBreaking without the cost": func() []int {
			best, _, _ := impl.BestBreaking(m, words)
			return best
		},
		"WidthsFor": func() []int { return impl.WidthsFor(m, words, 12) },
		"a function that returns a number": func() []int {
			numbers := []int{impl.LineKind(m, words, 0, len(words)), impl.CostOf(m, words, lines), impl.CountBreakings(m, words), impl.BreakingIndex(m, words, lines)}
			return slices.Concat(numbers, truth(impl.TextOk(words)), truth(impl.IsBreaking(m, words, lines)))
		},
	}
}

func TestBreaksKeepTheirArguments(t *testing.T) {
	random := rand.New(rand.NewPCG(1886, 22))
	for _, plain := range slices.Concat(shortTexts(), randomTexts(15, 1, 40), some(badTexts())) {
		measures := []impl.Measure{measure(8, 1, 4), measure(79, 1, 100), measure(0, 1, 4)}
		if refTextOk(plain) {
			measures = append(measures, some(measuresForText(random, plain))...)
		}
		for _, m := range measures {
			best, _, _ := impl.BestBreaking(m, plain)
			for _, list := range [][]int{best, {3, -1}} {
				words, all := roomy(plain)
				lines, allLines := roomy(list)
				checkMemory(t, breakCalls(m, words, lines), all, allLines)
			}
		}
	}
}
