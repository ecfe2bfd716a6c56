package tests

import (
	"math"
	"slices"
	"testing"

	"loop.example/g03230/impl"
)

// P8 for chapter 2: every function returns what the chapter specifies.

func TestCountTeeth(t *testing.T) {
	for s := -300; s <= 300; s++ {
		if got := impl.CountTeeth(s); got != refCount(s) {
			t.Errorf("CountTeeth(%d) = %d", s, got)
		}
	}
	for _, s := range extremes {
		if got := impl.CountTeeth(s); got != -1 {
			t.Errorf("CountTeeth(%d) = %d, which is no set", s, got)
		}
	}
	if impl.CountTeeth(0) != 0 || impl.CountTeeth(64) != 1 || impl.CountTeeth(impl.AllTeeth) != 7 || impl.CountTeeth(128) != -1 {
		t.Error("teeth of named sets")
	}
}

func TestShortLists(t *testing.T) {
	for _, list := range shortLists([]int{0, 1, 2, 3, 5, 6, 7}) {
		checkList(t, list)
	}
	for _, list := range shortLists([]int{-1, 0, 64, 96, 127, 128}) {
		checkList(t, list)
	}
}

func TestEdgeLists(t *testing.T) {
	for _, list := range edgeLists() {
		checkList(t, list)
	}
}

func TestRandomLists(t *testing.T) {
	for _, bar := range slices.Concat(randomBars(60, 6), randomBars(60, 40), randomSets(40, 8), randomSets(40, 40)) {
		checkList(t, bar)
	}
}

// checkList holds all functions of the chapter against the reference, with all
// sets, places and teeth and with numbers that are none.
func checkList(t *testing.T, list []int) {
	t.Helper()
	if got := impl.IsBar(list); got != refIsBar(list) {
		t.Errorf("IsBar(%v) = %v", list, got)
	}
	if got := impl.SortsAll(list); got != refSortsAll(list) {
		t.Errorf("SortsAll(%v) = %v", list, got)
	}
	wantOrder, wantOk := refOrder(list)
	if got, ok := impl.OrderBar(list); ok != wantOk || !slices.Equal(got, wantOrder) {
		t.Errorf("OrderBar(%v) = %v, %v; want %v, %v", list, got, ok, wantOrder, wantOk)
	}
	if got, want := impl.CountOrders(list), refCountOrders(list); got != want {
		t.Errorf("CountOrders(%v) = %d; want %d", list, got, want)
	}
	for _, s := range slices.Concat(upTo(-2, 132), extremes) {
		checkSet(t, list, s)
	}
	for _, place := range slices.Concat(upTo(-2, len(list)+4), extremes) {
		checkPlace(t, list, place)
	}
}

func checkSet(t *testing.T, list []int, s int) {
	t.Helper()
	if got, want := impl.FallOf(list, s), refFall(list, s); got != want {
		t.Errorf("FallOf(%v, %d) = %d; want %d", list, s, got, want)
	}
	if got, want := impl.ReachOf(list, s), refReach(list, s); !slices.Equal(got, want) {
		t.Errorf("ReachOf(%v, %d) = %v; want %v", list, s, got, want)
	}
}

func checkPlace(t *testing.T, list []int, place int) {
	t.Helper()
	if got, want := impl.LossBefore(list, place), refLoss(list, place); got != want {
		t.Errorf("LossBefore(%v, %d) = %d; want %d", list, place, got, want)
	}
	for _, tooth := range slices.Concat(upTo(-2, 12), upTo(60, 10), extremes) {
		want, wantOk := refBreak(list, place, tooth)
		if got, ok := impl.BreakRail(list, place, tooth); ok != wantOk || !slices.Equal(got, want) {
			t.Errorf("BreakRail(%v, %d, %d) = %v, %v; want %v, %v", list, place, tooth, got, ok, want, wantOk)
		}
	}
}

// The reference could share a misreading with the program: these values were
// worked out by hand from the document.

func TestBarsByHand(t *testing.T) {
	for _, c := range []struct {
		bar   []int
		isBar bool
		sorts bool
	}{
		{nil, false, false},
		{[]int{0}, true, true},
		{[]int{127}, true, true},
		{[]int{0, 127}, true, true},
		{[]int{127, 0}, true, false},
		{[]int{1, 2, 1}, true, false},
		{[]int{3, 5, 6, 9}, true, true},
		{[]int{1, 3, 2}, true, false},
		{[]int{2, 1, 3}, true, true},
		{[]int{128}, false, false},
		{[]int{-1}, false, false},
		{[]int{1, 2, math.MinInt}, false, false},
		{repeated(0, 40), true, false},
		{upTo(0, 40), true, true},
		{upTo(0, 41), false, false},
	} {
		if impl.IsBar(c.bar) != c.isBar || impl.SortsAll(c.bar) != c.sorts {
			t.Errorf("%v: bar %v, sorts %v", c.bar, impl.IsBar(c.bar), impl.SortsAll(c.bar))
		}
	}
}

func TestFallsByHand(t *testing.T) {
	bar := []int{3, 5, 6, 9}
	for _, c := range []struct{ s, want int }{
		{0, 0}, {1, 0}, {3, 0}, {4, 1}, {5, 1}, {6, 2}, {8, 3}, {9, 3}, {7, 4}, {10, 4}, {127, 4},
		{128, -1}, {-1, -1}, {math.MaxInt, -1}, {math.MinInt, -1}, {256, -1},
	} {
		if got := impl.FallOf(bar, c.s); got != c.want {
			t.Errorf("FallOf(%v, %d) = %d; want %d", bar, c.s, got, c.want)
		}
	}
	if impl.FallOf(nil, 1) != -1 || impl.FallOf(upTo(0, 41), 1) != -1 || impl.FallOf([]int{1, 128}, 1) != -1 {
		t.Error("a matrix falls on what is no bar")
	}
	if impl.FallOf(repeated(1, 40), 2) != 40 {
		t.Error("the end of the longest bar")
	}
}

func TestOrdersByHand(t *testing.T) {
	for _, c := range []struct {
		sets, want []int
		count      int
	}{
		{[]int{7, 3, 1, 5}, []int{1, 3, 5, 7}, 2},
		{[]int{7, 5, 3, 1}, []int{1, 5, 3, 7}, 2},
		{[]int{6, 1, 5, 2}, []int{1, 5, 2, 6}, 6},
		{[]int{127, 0}, []int{0, 127}, 1},
		{[]int{0}, []int{0}, 1},
		{[]int{1, 2, 3}, []int{1, 2, 3}, 2},
		{[]int{9, 6, 5, 3}, []int{9, 6, 5, 3}, 24},
		{[]int{3, 5, 6, 9, 10, 12, 17, 18}, []int{3, 5, 6, 9, 10, 12, 17, 18}, 40320},
		{[]int{127, 63, 31, 15, 7, 3, 1, 0}, []int{0, 1, 3, 7, 15, 31, 63, 127}, 1},
		{[]int{0, 1, 2, 4, 8, 16, 32, 64}, []int{0, 1, 2, 4, 8, 16, 32, 64}, 5040},
		{upTo(0, 9), upTo(0, 9), -1},
		{upTo(0, 40), upTo(0, 40), -1},
		{upTo(0, 41), nil, -1},
		{[]int{1, 2, 1}, nil, -1},
		{[]int{0, 0}, nil, -1},
		{[]int{1, 128}, nil, -1},
		{nil, nil, -1},
	} {
		got, ok := impl.OrderBar(c.sets)
		if !slices.Equal(got, c.want) || ok != (c.want != nil) {
			t.Errorf("OrderBar(%v) = %v, %v; want %v", c.sets, got, ok, c.want)
		}
		if n := impl.CountOrders(c.sets); n != c.count {
			t.Errorf("CountOrders(%v) = %d; want %d", c.sets, n, c.count)
		}
	}
}

func TestBrokenRailsByHand(t *testing.T) {
	bar := []int{3, 5, 127}
	for _, c := range []struct {
		place, tooth int
		want         []int
	}{
		{0, 2, []int{7, 5, 127}}, {0, 6, []int{67, 5, 127}}, {1, 1, []int{3, 7, 127}},
		{0, 0, nil}, {0, 1, nil}, {2, 6, nil}, {0, 7, nil}, {0, -1, nil}, {0, 64, nil}, {-1, 2, nil}, {3, 2, nil},
		{math.MinInt, 2, nil}, {math.MaxInt, 2, nil}, {0, math.MinInt, nil}, {0, math.MaxInt, nil},
	} {
		got, ok := impl.BreakRail(bar, c.place, c.tooth)
		if ok != (c.want != nil) || !slices.Equal(got, c.want) {
			t.Errorf("BreakRail(%v, %d, %d) = %v, %v; want %v", bar, c.place, c.tooth, got, ok, c.want)
		}
	}
}

func TestLossesByHand(t *testing.T) {
	for _, c := range []struct {
		bar         []int
		place, want int
	}{
		{[]int{3, 5, 6, 9}, 1, 1}, {[]int{3, 5, 6, 9}, 3, 1}, {[]int{0, 127}, 1, 7}, {[]int{127, 5}, 1, 0}, {[]int{5, 5}, 1, 0},
		{[]int{1, 6, 7, 24}, 3, 2}, {[]int{8, 3, 15}, 2, 2}, {[]int{1, 0}, 1, 0},
		{[]int{3, 5}, 0, -1}, {[]int{3, 5}, 2, -1}, {[]int{3, 5}, -1, -1}, {[]int{3}, 0, -1}, {nil, 1, -1},
		{[]int{3, 128}, 1, -1}, {upTo(0, 41), 1, -1}, {[]int{3, 5}, math.MaxInt, -1}, {[]int{3, 5}, math.MinInt, -1},
		{append(repeated(0, 39), 31), 39, 5},
	} {
		if got := impl.LossBefore(c.bar, c.place); got != c.want {
			t.Errorf("LossBefore(%v, %d) = %d; want %d", c.bar, c.place, got, c.want)
		}
	}
}

func TestReachesByHand(t *testing.T) {
	for _, c := range []struct {
		bar  []int
		s    int
		want []int
	}{
		{[]int{3, 5, 6, 9}, 9, []int{0, 3}}, {[]int{3, 5, 6, 9}, 0, []int{0}}, {[]int{3, 5, 6, 9}, 7, []int{0, 1, 2, 4}},
		{[]int{3, 5, 6, 9}, 127, []int{0, 1, 2, 3, 4}}, {[]int{127, 5}, 127, []int{0}}, {[]int{0}, 127, []int{0, 1}}, {[]int{5, 5}, 5, []int{0}},
		{nil, 1, nil}, {[]int{1}, 128, nil}, {[]int{1}, -1, nil}, {[]int{1, -1}, 1, nil}, {[]int{1}, math.MaxInt, nil}, {[]int{1}, math.MinInt, nil},
		{repeated(1, 40), 2, []int{0, 40}}, {repeated(1, 41), 2, nil},
	} {
		if got := impl.ReachOf(c.bar, c.s); !slices.Equal(got, c.want) {
			t.Errorf("ReachOf(%v, %d) = %v; want %v", c.bar, c.s, got, c.want)
		}
	}
}
