package tests

import (
	"slices"
	"testing"

	"loop.example/g03230/impl"
)

// P8 with chapter 1: arguments and what is behind them stay as they are, results
// share no memory, and no state is kept.

const behind = 99

// roomy returns the list with spare capacity, and all of the memory behind it.
func roomy(list []int) ([]int, []int) {
	all := append(slices.Clone(list), repeated(behind, 60)...)
	return all[:len(list)], all
}

func TestTeethKeepTheirArguments(t *testing.T) {
	for _, list := range slices.Concat(edgeLists(), randomSets(20, 40), randomBars(20, 40)) {
		bar, all := roomy(list)
		before := slices.Clone(all)
		for name, call := range listCalls(bar) {
			first := call()
			if !slices.Equal(all, before) {
				t.Fatalf("%s modified %v", name, list)
			}
			want := slices.Clone(first)
			second := call()
			fillAll(first)
			if !slices.Equal(all, before) || !slices.Equal(second, want) || !slices.Equal(call(), want) {
				t.Fatalf("%s of %v shares memory or keeps state", name, list)
			}
		}
	}
}

func fillAll(list []int) {
	list = list[:cap(list)]
	for i := range list {
		list[i] = -5
	}
}

func truth(b bool) []int {
	if b {
		return []int{1}
	}
	return []int{0}
}

func listCalls(bar []int) map[string]func() []int {
	last := len(bar) - 1
	return map[string]func() []int{
		"IsBar":       func() []int { return truth(impl.IsBar(bar)) },
		"SortsAll":    func() []int { return truth(impl.SortsAll(bar)) },
		"FallOf":      func() []int { return []int{impl.FallOf(bar, 5), impl.FallOf(bar, 127)} },
		"CountOrders": func() []int { return []int{impl.CountOrders(bar)} },
		"LossBefore":  func() []int { return []int{impl.LossBefore(bar, 1), impl.LossBefore(bar, last)} },
		"OrderBar": func() []int {
			order, _ := impl.OrderBar(bar)
			return order
		},
		"BreakRail of the first place": func() []int {
			broken, _ := impl.BreakRail(bar, 0, 6)
			return broken
		},
		"BreakRail of the last place": func() []int {
			broken, _ := impl.BreakRail(bar, last, 5)
			return broken
		},
		"ReachOf": func() []int { return impl.ReachOf(bar, 127) },
	}
}
