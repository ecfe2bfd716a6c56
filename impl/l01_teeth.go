package impl

import "math/bits"

const AllTeeth = 127
const MaxBar = 40

const toothCount = 7
const maxCounted = 8

// teeth is as wide as int, so that a number that is no set of teeth stays one
// when it is converted.
type teeth int

func (a teeth) isSet() bool { return 0 <= a && a <= AllTeeth }

func (a teeth) count() int { return bits.OnesCount64(uint64(a)) }

func (a teeth) without(b teeth) teeth { return a &^ b }

func (a teeth) with(b teeth) teeth { return a | b }

func (a teeth) isPartOf(b teeth) bool { return a.without(b) == 0 }

func oneTooth(tooth int) (teeth, bool) {
	if tooth < 0 || tooth >= toothCount {
		return 0, false
	}
	return 1 << tooth, true
}

// places keeps indices in a list as bits: 64 of them are enough for MaxBar.
type places uint64

func (p places) has(i int) bool { return p>>i&1 == 1 }

func (p places) with(i int) places { return p | 1<<i }

func (p places) arePartOf(q places) bool { return p&^q == 0 }

func IsBar(bar []int) bool {
	return isListOf(bar, 1, MaxBar, func(s int) bool { return teeth(s).isSet() })
}

func isListOf[T any](list []T, least int, most int, is func(T) bool) bool {
	if len(list) < least || len(list) > most {
		return false
	}
	for _, x := range list {
		if !is(x) {
			return false
		}
	}
	return true
}

func CountTeeth(s int) int {
	if !teeth(s).isSet() {
		return -1
	}
	return teeth(s).count()
}

func FallOf(bar []int, s int) int {
	if !IsBar(bar) || !teeth(s).isSet() {
		return -1
	}
	return fall(bar, teeth(s))
}

func fall(bar []int, s teeth) int {
	for i, b := range bar {
		if s.isPartOf(teeth(b)) {
			return i
		}
	}
	return len(bar)
}

func SortsAll(bar []int) bool {
	if !IsBar(bar) {
		return false
	}
	for i, s := range bar {
		if fall(bar, teeth(s)) != i {
			return false
		}
	}
	return true
}

// areOrderable reports whether sets is a bar without a set twice: of different
// sets, one of the fewest teeth has no other one as its part, so an order can
// always go on.
func areOrderable(sets []int) bool {
	if !IsBar(sets) {
		return false
	}
	var seen [AllTeeth + 1]bool
	for _, s := range sets {
		if seen[s] {
			return false
		}
		seen[s] = true
	}
	return true
}

// partsIn leaves out the set itself, which is part of itself but never in the
// way.
func partsIn(sets []int) []places {
	parts := make([]places, len(sets))
	for i, s := range sets {
		for j, other := range sets {
			if j != i && teeth(other).isPartOf(teeth(s)) {
				parts[i] = parts[i].with(j)
			}
		}
	}
	return parts
}

func mayFollow(parts []places, done places, i int) bool {
	return !done.has(i) && parts[i].arePartOf(done)
}

func OrderBar(sets []int) ([]int, bool) {
	if !areOrderable(sets) {
		return nil, false
	}
	parts := partsIn(sets)
	order := make([]int, 0, len(sets))
	var done places
	for range sets {
		for i, s := range sets {
			if mayFollow(parts, done, i) {
				order = append(order, s)
				done = done.with(i)
				break
			}
		}
	}
	return order, true
}

// CountOrders counts by the places that are done, and not by orders, as the
// ways to go on depend on these places alone.
func CountOrders(sets []int) int {
	if !areOrderable(sets) || len(sets) > maxCounted {
		return -1
	}
	parts := partsIn(sets)
	orders := make([]int, 1<<len(sets))
	orders[0] = 1
	for done := range orders {
		for i := range sets {
			if mayFollow(parts, places(done), i) {
				orders[places(done).with(i)] += orders[done]
			}
		}
	}
	return orders[len(orders)-1]
}

func hasPlace[T any](list []T, place int) bool {
	return 0 <= place && place < len(list)
}

func BreakRail(bar []int, place int, tooth int) ([]int, bool) {
	one, ok := oneTooth(tooth)
	if !ok || !IsBar(bar) || !hasPlace(bar, place) || one.isPartOf(teeth(bar[place])) {
		return nil, false
	}
	broken := make([]int, len(bar))
	copy(broken, bar)
	broken[place] = int(teeth(bar[place]).with(one))
	return broken, true
}

func LossBefore(bar []int, place int) int {
	if !IsBar(bar) || !hasPlace(bar, place) || place == 0 {
		return -1
	}
	least := toothCount
	for _, b := range bar[:place] {
		least = min(least, teeth(bar[place]).without(teeth(b)).count())
	}
	return least
}

func ReachOf(bar []int, s int) []int {
	if !IsBar(bar) || !teeth(s).isSet() {
		return nil
	}
	reached := make([]bool, len(bar)+1)
	for part := teeth(0); part <= teeth(s); part++ {
		if part.isPartOf(teeth(s)) {
			reached[fall(bar, part)] = true
		}
	}
	var reach []int
	for i, r := range reached {
		if r {
			reach = append(reach, i)
		}
	}
	return reach
}
