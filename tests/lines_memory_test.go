package tests

import (
	"math/rand/v2"
	"slices"
	"testing"

	"loop.example/g03230/impl"
)

// P8 with chapter 1, for chapter 4: lines stay as they are, with what is behind
// them, and results share no memory.

func lineCalls(m impl.Measure, line, other []int) map[string]func() []int {
	return map[string]func() []int{
		"BandWidths": func() []int { return impl.BandWidths(m, line) },
		"PlacesOf":   func() []int { return impl.PlacesOf(m, line) },
		"QuadLine": func() []int {
			filled, _ := impl.QuadLine(m, line, other)
			return filled
		},
		"CenterLine": func() []int {
			filled, _ := impl.CenterLine(m, line, other)
			return filled
		},
		"a function that returns a number": func() []int {
			thin, thick, _ := impl.WidthsOf(m, line)
			rise, rest, _ := impl.SpreadLine(m, line)
			numbers := []int{thin, thick, rise, rest, impl.CountFitting(m, line, other)}
			return slices.Concat(numbers, truth(impl.LineOk(line)), truth(impl.IsFull(m, line)))
		},
	}
}

func TestLinesKeepTheirArguments(t *testing.T) {
	random := rand.New(rand.NewPCG(1886, 14))
	for _, plain := range slices.Concat(edgeLines(), randomLines(40, 20), randomLines(20, 120)) {
		for _, m := range measuresFor(random, plain) {
			// The last list leaves the line as it is where nothing else has room.
			for _, list := range [][]int{{7, 3}, {8, 7, 6, 5, 4, 3, 2, 1}, {60}} {
				line, all := roomy(plain)
				other, allOther := roomy(list)
				checkMemory(t, lineCalls(m, line, other), all, allOther)
			}
		}
	}
}
