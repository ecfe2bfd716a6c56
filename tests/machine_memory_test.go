package tests

import (
	"math/rand/v2"
	"slices"
	"testing"

	"loop.example/g03230/impl"
)

// P8 with chapter 1, for chapter 6: machines stay as they are, with what is
// behind their lists, and results share no memory.

func roomyList(list []impl.Matrix) []impl.Matrix {
	return append(slices.Clone(list), slices.Repeat([]impl.Matrix{behindMatrix}, 150)...)[:len(list)]
}

// roomyMachine has spare capacity behind each of its lists.
func roomyMachine(x impl.Machine) impl.Machine {
	x.Font, x.Magazine = roomyFont(x.Font), roomyMagazine(x.Magazine)
	x.Line, x.Waiting = roomyList(x.Line), roomyList(x.Waiting)
	return x
}

func wholeMachine(x impl.Machine) impl.Machine {
	x.Font.Widths = slices.Clone(x.Font.Widths[:cap(x.Font.Widths)])
	x.Font.Codes = slices.Clone(x.Font.Codes[:cap(x.Font.Codes)])
	x.Magazine = wholeMagazine(x.Magazine)
	x.Line = slices.Clone(x.Line[:cap(x.Line)])
	x.Waiting = slices.Clone(x.Waiting[:cap(x.Waiting)])
	return x
}

// outcome is what a function of chapter 6 returned, all but the truth.
type outcome struct {
	machine impl.Machine
	numbers []int
	texts   []string
}

func (o outcome) kept() outcome {
	m := o.machine
	m.Font.Widths, m.Font.Codes = slices.Clone(m.Font.Widths), slices.Clone(m.Font.Codes)
	m.Magazine, m.Line, m.Waiting = copied(m.Magazine), slices.Clone(m.Line), slices.Clone(m.Waiting)
	return outcome{m, slices.Clone(o.numbers), slices.Clone(o.texts)}
}

func (o outcome) equals(p outcome) bool {
	return sameMachine(o.machine, p.machine) && slices.Equal(o.numbers, p.numbers) && slices.Equal(o.texts, p.texts)
}

// spoil writes into all memory of the outcome and reports whether two of its
// lists are the same memory.
func (o outcome) spoil() bool {
	m := o.machine
	shared := spoil(append(slices.Clone(m.Magazine), m.Line, m.Waiting))
	spoil(m.Magazine)
	lists := [][]int{m.Font.Widths, m.Font.Codes, o.numbers}
	for i, list := range lists {
		for j := range list[:cap(list)] {
			list[:cap(list)][j] = -9 - i
		}
	}
	for i, list := range lists {
		for _, n := range list[:cap(list)] {
			shared = shared || n != -9-i
		}
	}
	for i := range o.texts[:cap(o.texts)] {
		o.texts[:cap(o.texts)][i] = "spoiled"
	}
	return shared
}

func machineCalls(x impl.Machine, lines []string) map[string]func() outcome {
	keyed := func(text string) func() outcome {
		return func() outcome {
			y, n := impl.KeyText(x, text)
			return outcome{y, []int{n}, nil}
		}
	}
	dropped := func(most int) func() outcome {
		return func() outcome {
			y, n := impl.DropWaiting(x, most)
			return outcome{y, []int{n}, nil}
		}
	}
	cast := func() outcome {
		y, text, places, _ := impl.CastLine(x, true)
		return outcome{y, places, []string{text}}
	}
	set := func(lines []string) func() outcome {
		return func() outcome {
			y, texts, _ := impl.SetLines(x, lines)
			return outcome{y, nil, texts}
		}
	}
	return map[string]func() outcome{
		"NewMachine": func() outcome {
			y, _ := impl.NewMachine(x.Font, 3, 3, x.Measure)
			return outcome{y, nil, nil}
		},
		"KeyText of nothing": keyed(""), "KeyText of letters": keyed(x.Font.Letters), "KeyText of a band": keyed(" "),
		"DropWaiting of none": dropped(0), "DropWaiting of one": dropped(1), "DropWaiting of all": dropped(240),
		"CastLine": cast, "SetLines": set(lines), "SetLines of none": set(nil), "SetLines of one": set([]string{x.Font.Letters[:1]}),
		"WearMachine": func() outcome {
			for tooth := range 7 {
				if y, ok := impl.WearMachine(x, len(x.Magazine)-1, 0, tooth); ok {
					return outcome{y, nil, nil}
				}
			}
			return outcome{}
		},
		"ItemsOf":  func() outcome { return outcome{impl.Machine{}, impl.ItemsOf(x), []string{impl.LineText(x)}} },
		"CountAll": func() outcome { return outcome{impl.Machine{}, impl.CountAll(x), nil} },
		"FaultsOf": func() outcome {
			faults, _ := impl.FaultsOf(x.Font.Letters, x.Font.Letters[:len(x.Font.Letters)-1]+" ")
			return outcome{impl.Machine{}, faults, nil}
		},
		"MachineOk": func() outcome { return outcome{impl.Machine{}, truth(impl.MachineOk(x)), nil} },
	}
}

func TestMachinesKeepTheirArguments(t *testing.T) {
	random := rand.New(rand.NewPCG(1886, 26))
	for _, f := range slices.Concat(machineFonts(), randomFonts(6, 12)) {
		for _, plain := range machines(random, f, 12) {
			x := roomyMachine(plain)
			lines := append(make([]string, 0, 60), " ", f.Letters[:1], "")[:2]
			before, beforeLines := wholeMachine(x), slices.Clone(lines[:cap(lines)])
			checkOutcomes(t, machineCalls(x, lines), func() bool {
				return sameMachine(wholeMachine(x), before) && slices.Equal(lines[:cap(lines)], beforeLines)
			})
		}
	}
}

// checkOutcomes holds calls to what chapter 1 says about memory, given a function
// that says whether all the memory of their arguments is as it was.
func checkOutcomes(t *testing.T, calls map[string]func() outcome, unchanged func() bool) {
	t.Helper()
	for name, call := range calls {
		first := call()
		want := first.kept()
		second := call()
		if first.spoil() {
			t.Fatalf("lists that %s returned share memory: %+v", name, want)
		}
		if !second.equals(want) || !call().equals(want) {
			t.Fatalf("%s shares memory or keeps state: %+v", name, want)
		}
		if !unchanged() {
			t.Fatalf("%s modified its arguments: %+v", name, want)
		}
	}
}
