package tests

import (
	"slices"
	"testing"

	"loop.example/g03230/impl"
)

// P8 with chapter 1: arguments and what is behind them stay as they are, results
// share no memory, and no state is kept.

const behind = 99

// roomy returns the list with spare capacity, and all of the memory behind it.
func roomy(list []int) ([]int, []int) {
	all := append(slices.Clone(list), repeated(behind, 60)...)
	return all[:len(list)], all
}

func TestTeethKeepTheirArguments(t *testing.T) {
	for _, list := range slices.Concat(edgeLists(), randomSets(20, 40), randomBars(20, 40)) {
		bar, all := roomy(list)
		checkMemory(t, listCalls(bar), all)
	}
}

// checkMemory holds calls to what chapter 1 says about memory, given all the
// memory that belongs to their arguments.
func checkMemory(t *testing.T, calls map[string]func() []int, arguments ...[]int) {
	t.Helper()
	before := slices.Concat(arguments...)
	for name, call := range calls {
		first := call()
		want := slices.Clone(first)
		second := call()
		fillAll(first)
		if !slices.Equal(slices.Concat(arguments...), before) {
			t.Fatalf("%s modified its arguments or shares their memory: %v", name, before)
		}
		if !slices.Equal(second, want) || !slices.Equal(call(), want) {
			t.Fatalf("%s shares memory or keeps state: %v", name, before)
		}
	}
}

func fillAll(list []int) {
	list = list[:cap(list)]
	for i := range list {
		list[i] = -5
	}
}

func truth(b bool) []int {
	if b {
		return []int{1}
	}
	return []int{0}
}

func listCalls(bar []int) map[string]func() []int {
	last := len(bar) - 1
	return map[string]func() []int{
		"IsBar":       func() []int { return truth(impl.IsBar(bar)) },
		"SortsAll":    func() []int { return truth(impl.SortsAll(bar)) },
		"FallOf":      func() []int { return []int{impl.FallOf(bar, 5), impl.FallOf(bar, 127)} },
		"CountOrders": func() []int { return []int{impl.CountOrders(bar)} },
		"LossBefore":  func() []int { return []int{impl.LossBefore(bar, 1), impl.LossBefore(bar, last)} },
		"OrderBar": func() []int {
			order, _ := impl.OrderBar(bar)
			return order
		},
		"BreakRail of the first place": func() []int {
			broken, _ := impl.BreakRail(bar, 0, 6)
			return broken
		},
		"BreakRail of the last place": func() []int {
			broken, _ := impl.BreakRail(bar, last, 5)
			return broken
		},
		"ReachOf": func() []int { return impl.ReachOf(bar, 127) },
	}
}
