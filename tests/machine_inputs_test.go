package tests

import (
	"math/rand/v2"
	"slices"
	"strings"

	"loop.example/g03230/impl"
)

// machineFonts has a font, too, of letters so narrow that a line may have
// MaxItems of them.
func machineFonts() []impl.Font {
	return append(fonts(), impl.Font{Letters: "iIl.", Widths: []int{1, 3, 2, 1}, Codes: []int{1, 3, 4, 12}})
}

func pick[T any](random *rand.Rand, list ...T) T { return list[random.IntN(len(list))] }

func randomMatrices(random *rand.Rand, f impl.Font, n int) []impl.Matrix {
	var list []impl.Matrix
	for range n {
		list = append(list, randomMatrix(random, f, random.IntN(len(f.Codes))))
	}
	return list
}

// randomMachine has matrices of all kinds in all places, worn ones among them,
// with numbers up to the limits, and a measure at which the line is full, or
// nearly so, or has room left.
func randomMachine(random *rand.Rand, f impl.Font) impl.Machine {
	x := impl.Machine{
		Font:     f,
		Magazine: randomMagazine(random, f, pick(random, 0, 1, 5, 20)),
		Spare:    pick(random, 0, 1, 59, 60, random.IntN(61)),
		Waiting:  randomMatrices(random, f, pick(random, 0, 0, 1, 7, 238, 239, 240, random.IntN(241))),
	}
	x.Line = randomMatrices(random, f, pick(random, 0, 0, 1, 2, 10, 119, 120, random.IntN(121)))
	bandsIn := 1 + random.IntN(5)
	for i := range x.Line {
		if random.IntN(bandsIn) == 0 {
			x.Line[i] = of(-1, 0)
		}
	}
	for x.Measure = fittingMeasure(random, x); !refMachineOk(x); x.Measure = fittingMeasure(random, x) {
		x.Line = x.Line[:len(x.Line)/2]
	}
	return x
}

func fittingMeasure(random *rand.Rand, x impl.Machine) impl.Measure {
	line := refLineItems(x)
	fits := slices.DeleteFunc(measuresFor(random, line), func(m impl.Measure) bool { return !refFits(m, line) })
	return pick(random, append(fits, measure(2000, 1, 1+random.IntN(100)))...)
}

// machines returns new machines and random ones.
func machines(random *rand.Rand, f impl.Font, n int) []impl.Machine {
	var list []impl.Machine
	for _, each := range []int{0, 1, 2, 20} {
		x, _ := refNew(f, each, pick(random, 0, 1, 20, 60), measure(pick(random, 1, 40, 100, 2000), 2, 5))
		list = append(list, x)
	}
	for range n {
		list = append(list, randomMachine(random, f))
	}
	return list
}

// badMachines returns what is no machine, each with one fault.
func badMachines() []impl.Machine {
	good, _ := refNew(abcFont(), 2, 3, measure(10, 2, 5))
	good.Line = []impl.Matrix{of(0, 3), of(-1, 0), of(0, 2)}
	good.Waiting = []impl.Matrix{of(1, 4), of(2, 6)}
	bad := []impl.Machine{{}}
	change := func(spoil func(x *impl.Machine)) {
		x := good
		x.Line, x.Waiting = slices.Clone(good.Line), slices.Clone(good.Waiting)
		spoil(&x)
		bad = append(bad, x)
	}
	for _, f := range badFonts() {
		change(func(x *impl.Machine) { x.Font = f })
	}
	for _, m := range badMagazines(good.Font) {
		change(func(x *impl.Machine) { x.Magazine = m })
	}
	for _, spare := range append(slices.Clone(extremes), -3, 61, 62) {
		change(func(x *impl.Machine) { x.Spare = spare })
	}
	for _, m := range append(badMeasures(), measure(9, 2, 5), measure(1, 1, 1), measure(10, 3, 5)) {
		change(func(x *impl.Machine) { x.Measure = m })
	}
	for _, y := range append(matrices(good.Font), of(-1, 1), of(-1, -1), of(-1, 128), of(-2, 0)) {
		if refHas(good.Font, y) {
			continue
		}
		change(func(x *impl.Machine) { x.Waiting[0] = y })
		change(func(x *impl.Machine) { x.Waiting[1] = y })
		if y != of(-1, 0) {
			change(func(x *impl.Machine) { x.Line[0] = y })
			change(func(x *impl.Machine) { x.Line[1] = y })
			change(func(x *impl.Machine) { x.Line[2] = y })
		}
	}
	change(func(x *impl.Machine) { x.Waiting = slices.Repeat([]impl.Matrix{of(0, 3)}, 241) })
	change(func(x *impl.Machine) { x.Waiting = slices.Repeat([]impl.Matrix{of(0, 3)}, 1000) })
	change(func(x *impl.Machine) { x.Line, x.Measure = slices.Repeat(x.Line[:1], 121), measure(2000, 1, 1) })
	change(func(x *impl.Machine) { x.Line, x.Measure = slices.Repeat(x.Line[1:2], 121), measure(2000, 1, 1) })
	change(func(x *impl.Machine) { x.Line = append(x.Line, of(-1, 0)) })
	return bad
}

// textsFor returns texts to be keyed: without letters, with ones that are none,
// longer than any line, and random ones.
func textsFor(random *rand.Rand, f impl.Font, n int) []string {
	texts := []string{"", " ", "  ", "\x00", "\n", "\t", "\u00e9", "\xff", "\xa0", "\u00a0", "\u3000", "\u2003a", strings.Repeat(" ", 130)}
	if f.Letters == "" {
		return append(texts, "a")
	}
	first, last := f.Letters[:1], f.Letters[len(f.Letters)-1:]
	texts = append(texts, first, last, f.Letters, strings.Repeat(first, 130), strings.Repeat(last+" ", 130), first+"\n"+first, last+string([]byte{first[0] | 128}), first+string(rune(first[0])+256))
	for range n {
		text := make([]byte, 1+random.IntN(pick(random, 3, 12, 130)))
		blanksIn := 2 + random.IntN(5)
		for i := range text {
			text[i] = f.Letters[random.IntN(len(f.Letters))]
			if random.IntN(blanksIn) == 0 {
				text[i] = ' '
			}
		}
		if random.IntN(8) == 0 {
			text[random.IntN(len(text))] = byte(random.IntN(256))
		}
		texts = append(texts, string(text))
	}
	return texts
}

func linesFor(random *rand.Rand, f impl.Font, n int) [][]string {
	texts := textsFor(random, f, 20)
	lists := [][]string{nil, {}, {""}, {"", ""}, {" ", " "}, {f.Letters}, {f.Letters, f.Letters, ""}}
	for range n {
		var lines []string
		for range 1 + random.IntN(4) {
			text := pick(random, texts...)
			lines = append(lines, text[:min(len(text), 1+random.IntN(6))])
		}
		lists = append(lists, lines)
	}
	return lists
}
