package tests

import (
	"slices"
	"testing"

	"loop.example/g03230/impl"
)

// P1. A bar that was ordered sorts all its sets; a matrix that loses teeth never
// falls later, and broken rails catch at their places alone.

func TestOrderedBarSortsAllItsSets(t *testing.T) {
	lists := slices.Concat(randomSets(200, 40), edgeLists(), shortLists([]int{0, 1, 3, 6, 127}))
	ordered := 0
	for _, sets := range lists {
		bar, ok := impl.OrderBar(sets)
		if ok != (refIsBar(sets) && !refHasTwice(sets)) {
			t.Errorf("OrderBar(%v) answers %v", sets, ok)
		}
		if !ok {
			if len(bar) != 0 || impl.CountOrders(sets) != -1 {
				t.Errorf("%v cannot be ordered, but gives %v", sets, bar)
			}
			continue
		}
		ordered++
		if !impl.SortsAll(bar) || !sameSets(bar, sets) {
			t.Errorf("OrderBar(%v) = %v, which does not sort all", sets, bar)
		}
		if again, ok := impl.OrderBar(bar); !ok || !slices.Equal(again, bar) {
			t.Errorf("%v is in order, but was ordered to %v", bar, again)
		}
		if len(sets) <= 8 && impl.CountOrders(sets) < 1 {
			t.Errorf("%v has an order that is not counted", sets)
		}
	}
	if ordered < 200 {
		t.Errorf("only %d bars were ordered", ordered)
	}
}

func sameSets(a, b []int) bool {
	a, b = slices.Clone(a), slices.Clone(b)
	slices.Sort(a)
	slices.Sort(b)
	return slices.Equal(a, b)
}

func TestLostTeethNeverFallLater(t *testing.T) {
	for _, bar := range slices.Concat(randomBars(60, 40), shortLists([]int{0, 1, 6, 127})[1:]) {
		for s := range impl.AllTeeth + 1 {
			fall := impl.FallOf(bar, s)
			if fall < 0 || fall > len(bar) {
				t.Fatalf("FallOf(%v, %d) = %d", bar, s, fall)
			}
			reach := impl.ReachOf(bar, s)
			if !slices.Contains(reach, fall) || reach[len(reach)-1] != fall {
				t.Errorf("ReachOf(%v, %d) = %v does not end with the fall %d", bar, s, reach, fall)
			}
			for tooth := range 7 {
				if worn := s &^ (1 << tooth); impl.FallOf(bar, worn) > fall {
					t.Errorf("on %v, %d falls later than %d", bar, worn, s)
				}
			}
		}
	}
}

func TestLossesAreTheLeastOnes(t *testing.T) {
	for _, bar := range randomBars(60, 40) {
		for place := 1; place < len(bar); place++ {
			loss := impl.LossBefore(bar, place)
			if loss < 0 || loss > impl.CountTeeth(bar[place]) {
				t.Fatalf("LossBefore(%v, %d) = %d", bar, place, loss)
			}
			if sorted := impl.FallOf(bar, bar[place]) == place; sorted != (loss > 0) {
				t.Errorf("LossBefore(%v, %d) = %d", bar, place, loss)
			}
		}
	}
}

func TestBrokenRailsCatchAtTheirPlacesAlone(t *testing.T) {
	for _, bar := range slices.Concat(randomBars(15, 40), shortLists([]int{0, 3, 6, 126})[1:]) {
		for place := range bar {
			for tooth := range 7 {
				checkBroken(t, bar, place, tooth)
			}
		}
	}
}

func checkBroken(t *testing.T, bar []int, place, tooth int) {
	t.Helper()
	broken, ok := impl.BreakRail(bar, place, tooth)
	has := impl.FallOf([]int{bar[place]}, 1<<tooth) == 0
	if ok == has {
		t.Fatalf("BreakRail(%v, %d, %d) answers %v", bar, place, tooth, ok)
	}
	if !ok {
		return
	}
	for s := range impl.AllTeeth + 1 {
		before, after := impl.FallOf(bar, s), impl.FallOf(broken, s)
		if after != before && (after != place || before < place) {
			t.Errorf("%v broken at %d: %d falls at %d, no more at %d", bar, place, s, after, before)
		}
	}
	if impl.FallOf(broken, broken[place]) > place || impl.CountTeeth(broken[place]) != impl.CountTeeth(bar[place])+1 {
		t.Errorf("%v broken at %d is %v and catches nothing there", bar, place, broken)
	}
}
