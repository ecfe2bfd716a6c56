package tests

import (
	"math/rand/v2"
	"slices"
	"testing"

	"loop.example/g03230/impl"
)

// P8 with chapter 1, for chapter 8: desks stay as they are, with what is behind
// their lists, and results share no memory.

// bytesOf returns the string as numbers, so that an outcome can have it.
func bytesOf(text string) []int {
	var numbers []int
	for i := range len(text) {
		numbers = append(numbers, int(text[i]))
	}
	return numbers
}

func deskCalls(d impl.Desk, lines []string) map[string]func() outcome {
	calls := map[string]func() outcome{
		"DeskOk":  func() outcome { return outcome{numbers: truth(impl.DeskOk(d))} },
		"NewDesk": func() outcome { return outcome{machine: impl.NewDesk().Machine} },
		"RunScript": func() outcome {
			answers, n := impl.RunScript("key tea\nragged\nwear 0 0 0\nset sea\nrun\nstrays")
			return outcome{numbers: []int{n}, texts: []string{answers}}
		},
	}
	for _, line := range lines {
		calls["RunLine of "+line] = func() outcome {
			after, answer := impl.RunLine(d, line)
			return outcome{after.Machine, bytesOf(answer), after.Galley}
		}
	}
	return calls
}

func TestDesksKeepTheirArguments(t *testing.T) {
	random := rand.New(rand.NewPCG(1886, 43))
	desks := some(badDesks())
	for _, f := range slices.Concat(galleyFonts(), randomFonts(6, 12)) {
		desks = append(desks, desksFor(random, f, 8)...)
	}
	for _, plain := range desks {
		d := impl.Desk{Machine: roomyMachine(plain.Machine), Galley: roomyLines(plain.Galley)}
		lines := append(slices.Clone(aloneWords), "", "hello", "drop", "drop 240", "drop -1", "wear 0 0 0", "wear 0 0 1", "measure 60 2 8", "measure 0 2 8", "key  ", "set a")
		if refDeskOk(d) {
			f := d.Machine.Font
			lines = append(lines, "key "+f.Letters, "set "+f.Letters[:1], "set "+refGalleyText(d.Galley), "put 0 "+f.Letters[:1], "put 0 ", "put 1 "+f.Letters[:1])
		}
		before, galley := wholeMachine(d.Machine), slices.Clone(d.Galley[:cap(d.Galley)])
		checkOutcomes(t, deskCalls(d, lines), func() bool {
			return sameMachine(wholeMachine(d.Machine), before) && slices.Equal(d.Galley[:cap(d.Galley)], galley)
		})
	}
}

func TestNumbersKeepTheirArguments(t *testing.T) {
	for _, plain := range append(shortLists([]int{0, -1, 10}), extremes) {
		list, all := roomy(plain)
		text := refFormat(plain)
		checkMemory(t, map[string]func() []int{
			"FormatNumbers": func() []int { return bytesOf(impl.FormatNumbers(list)) },
			"ParseNumbers": func() []int {
				read, _ := impl.ParseNumbers(text)
				return read
			},
		}, all)
	}
}
