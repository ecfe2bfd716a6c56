package tests

import "slices"

// The reference follows the sentences of chapter 2 and goes through a set of
// teeth digit by digit, so that it shares no step with the program.

type refSet [7]bool

func refIsSet(s int) bool { return s >= 0 && s <= 127 }

func refTeeth(s int) refSet {
	var set refSet
	for t := range set {
		set[t] = s%2 == 1
		s /= 2
	}
	return set
}

func refIsPart(a, b int) bool {
	for range 7 {
		if a%2 == 1 && b%2 == 0 {
			return false
		}
		a, b = a/2, b/2
	}
	return true
}

func refIsBar(bar []int) bool {
	for _, s := range bar {
		if !refIsSet(s) {
			return false
		}
	}
	return len(bar) >= 1 && len(bar) <= 40
}

func refCount(s int) int {
	if !refIsSet(s) {
		return -1
	}
	n := 0
	for _, has := range refTeeth(s) {
		if has {
			n++
		}
	}
	return n
}

func refFall(bar []int, s int) int {
	if !refIsBar(bar) || !refIsSet(s) {
		return -1
	}
	place := 0
	for place < len(bar) && !refIsPart(s, bar[place]) {
		place++
	}
	return place
}

func refSortsAll(bar []int) bool {
	for i, s := range bar {
		if refFall(bar, s) != i {
			return false
		}
	}
	return refIsBar(bar)
}

func refHasTwice(sets []int) bool {
	for i, s := range sets {
		if slices.Contains(sets[:i], s) {
			return true
		}
	}
	return false
}

func refOrder(sets []int) ([]int, bool) {
	if !refIsBar(sets) || refHasTwice(sets) {
		return nil, false
	}
	left := slices.Clone(sets)
	var order []int
	for len(left) > 0 {
		i := slices.IndexFunc(left, func(s int) bool {
			return !slices.ContainsFunc(left, func(other int) bool { return other != s && refIsPart(other, s) })
		})
		order = append(order, left[i])
		left = slices.Delete(left, i, i+1)
	}
	return order, true
}

func refCountOrders(sets []int) int {
	if !refIsBar(sets) || refHasTwice(sets) || len(sets) > 8 {
		return -1
	}
	n := 0
	eachOrder(slices.Clone(sets), 0, func(order []int) {
		if refSortsAll(order) {
			n++
		}
	})
	return n
}

func eachOrder(sets []int, from int, visit func([]int)) {
	if from == len(sets) {
		visit(sets)
		return
	}
	for i := from; i < len(sets); i++ {
		sets[from], sets[i] = sets[i], sets[from]
		eachOrder(sets, from+1, visit)
		sets[from], sets[i] = sets[i], sets[from]
	}
}

func refBreak(bar []int, place, tooth int) ([]int, bool) {
	if !refIsBar(bar) || place < 0 || place >= len(bar) || tooth < 0 || tooth > 6 {
		return nil, false
	}
	set := refTeeth(bar[place])
	if set[tooth] {
		return nil, false
	}
	value := 1
	for range tooth {
		value *= 2
	}
	broken := slices.Clone(bar)
	broken[place] += value
	return broken, true
}

func refLoss(bar []int, place int) int {
	if !refIsBar(bar) || place < 1 || place >= len(bar) {
		return -1
	}
	least := 8
	for part := 0; part <= 127; part++ {
		if refIsPart(part, bar[place]) && refFall(bar, part) < place {
			least = min(least, refCount(bar[place])-refCount(part))
		}
	}
	return least
}

func refReach(bar []int, s int) []int {
	var reach []int
	if !refIsBar(bar) || !refIsSet(s) {
		return nil
	}
	for part := 0; part <= 127; part++ {
		if refIsPart(part, s) {
			reach = append(reach, refFall(bar, part))
		}
	}
	slices.Sort(reach)
	return slices.Compact(reach)
}
