package tests

import (
	"math"
	"math/rand/v2"
)

var extremes = []int{math.MinInt, math.MinInt + 1, math.MinInt32, -129, -128, -127, -64, -7, -2, -1, 128, 129, 255, 256, 257, math.MaxInt32, 1 << 32, 1<<32 + 1, 1 << 62, math.MaxInt - 1, math.MaxInt}

// shortLists returns all lists of at most three of the numbers.
func shortLists(numbers []int) [][]int {
	lists := [][]int{nil}
	for first := 0; first < len(lists); first++ {
		if len(lists[first]) == 3 {
			continue
		}
		for _, n := range numbers {
			lists = append(lists, append(append([]int{}, lists[first]...), n))
		}
	}
	return lists
}

// randomBars returns bars of all lengths, of few and of many different sets.
func randomBars(n int, longest int) [][]int {
	random := rand.New(rand.NewPCG(1886, 1))
	bars := make([][]int, n)
	for i := range bars {
		bar := make([]int, 1+random.IntN(longest))
		mask := random.IntN(128) | random.IntN(128)
		for j := range bar {
			bar[j] = random.IntN(128) & mask
		}
		bars[i] = bar
	}
	return bars
}

// randomSets returns lists of different sets, in no order.
func randomSets(n int, longest int) [][]int {
	random := rand.New(rand.NewPCG(1886, 2))
	lists := make([][]int, n)
	for i := range lists {
		lists[i] = random.Perm(128)[:1+random.IntN(longest)]
	}
	return lists
}

func repeated(s, n int) []int {
	list := make([]int, n)
	for i := range list {
		list[i] = s
	}
	return list
}

// upTo returns the sets from first on, as many as n says.
func upTo(first, n int) []int {
	list := make([]int, n)
	for i := range list {
		list[i] = first + i
	}
	return list
}

// edgeLists returns what chapter 2 names: the empty list, a bar of MaxBar places
// and one of more, sets twice, the sets 0 and AllTeeth, and numbers that are no
// sets at the first, a middle and the last place.
func edgeLists() [][]int {
	lists := [][]int{
		nil, {}, {0}, {127}, {0, 127}, {127, 0}, {0, 0}, {127, 127}, {5, 5}, {5, 3, 5}, {1, 2, 4, 8, 16, 32, 64},
		{0, 1, 3, 7, 15, 31, 63, 127}, {127, 63, 31, 15, 7, 3, 1, 0}, {0, 1, 2, 4, 8, 16, 32, 64}, {3, 5, 6, 9, 10, 12, 17, 18},
		{3, 5, 6, 9, 10, 12, 17, 18, 20}, upTo(0, 8), upTo(0, 9), upTo(0, 40), upTo(0, 41), upTo(88, 40), upTo(87, 41),
		upTo(0, 128), repeated(0, 40), repeated(0, 41), repeated(127, 40), repeated(1, 1000),
	}
	for _, n := range extremes {
		lists = append(lists, []int{n}, []int{n, 1, 2}, []int{1, n, 2}, []int{1, 2, n}, append(upTo(0, 39), n), append(upTo(0, 40), n))
	}
	return lists
}
