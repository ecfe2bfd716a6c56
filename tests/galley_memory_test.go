package tests

import (
	"math/rand/v2"
	"slices"
	"testing"

	"loop.example/g03230/impl"
)

// P8 with chapter 1, for chapter 7: galleys stay as they are, with what is behind
// them, and results share no memory.

func roomyLines(lines []string) []string {
	return append(slices.Clone(lines), slices.Repeat([]string{"behind"}, 60)...)[:len(lines)]
}

func galleyCalls(x impl.Machine, galley, lines []string, text string) map[string]func() outcome {
	n := len(refWords(refGalleyText(galley)))
	replaced := func(index int, text string) func() outcome {
		return func() outcome {
			corrected, _ := impl.ReplaceWord(x.Font, x.Measure, galley, index, text)
			return outcome{texts: corrected}
		}
	}
	applied := func(first, out int, lines []string) func() outcome {
		return func() outcome {
			after, _ := impl.ApplyReset(galley, first, out, lines)
			return outcome{texts: after}
		}
	}
	return map[string]func() outcome{
		"ReplaceWord of the first word": replaced(0, text), "ReplaceWord of the last word": replaced(n-1, text), "ReplaceWord by none": replaced(n-1, ""), "ReplaceWord of no word": replaced(n, text),
		"ApplyReset to the first line": applied(0, 1, lines), "ApplyReset to all": applied(0, len(galley), lines), "ApplyReset of none to none": applied(0, 0, nil), "ApplyReset behind the last": applied(len(galley), 0, lines), "ApplyReset without the last": applied(len(galley)-1, 1, nil),
		"WordWidths": func() outcome {
			widths, _ := impl.WordWidths(x.Font, text)
			return outcome{numbers: widths}
		},
		"SetGalley": func() outcome {
			set, _ := impl.SetGalley(x.Font, x.Measure, refGalleyText(galley))
			return outcome{texts: set}
		},
		"CastGalley": func() outcome {
			after, faults, _ := impl.CastGalley(x, galley)
			return outcome{after, faults, nil}
		},
		"ResetOf": func() outcome {
			first, out, in := impl.ResetOf(galley, lines)
			return outcome{numbers: []int{first, out, in}}
		},
		"a function that returns a string": func() outcome {
			return outcome{numbers: truth(impl.GalleyOk(x.Font, x.Measure, galley)), texts: []string{impl.GalleyText(galley), impl.MarksOf(galley, lines), impl.MarksOf(lines, galley)}}
		},
	}
}

func TestGalleysKeepTheirArguments(t *testing.T) {
	random := rand.New(rand.NewPCG(1886, 34))
	for _, f := range slices.Concat(galleyFonts(), randomFonts(6, 12)) {
		for _, text := range wordingsFor(random, f, 12) {
			m := pick(random, measuresForWording(random, f, text)...)
			lists := append(galleysFor(random, f, m, text, 2), []string{"a", " b"})
			for _, plain := range lists {
				x, galley := roomyMachine(machineFor(random, f, m)), roomyLines(plain)
				lines := roomyLines(pick(random, lists...))
				checkGalleyMemory(t, x, galley, lines, text)
			}
		}
	}
}

func checkGalleyMemory(t *testing.T, x impl.Machine, galley, lines []string, text string) {
	t.Helper()
	before, beforeLines := wholeMachine(x), slices.Concat(galley[:cap(galley)], lines[:cap(lines)])
	checkOutcomes(t, galleyCalls(x, galley, lines, text), func() bool {
		return sameMachine(wholeMachine(x), before) && slices.Equal(slices.Concat(galley[:cap(galley)], lines[:cap(lines)]), beforeLines)
	})
}
