package tests

import (
	"slices"
	"strings"

	"loop.example/g03230/impl"
)

// The reference follows the sentences of chapter 6 with one machine after the
// other, and asks of each whether it is one, on the reference of chapters 3 and 4.

func refMachineOk(x impl.Machine) bool {
	if !refMagazineOk(x.Font, x.Magazine) || x.Spare < 0 || x.Spare > 60 || len(x.Waiting) > 240 {
		return false
	}
	for _, y := range x.Waiting {
		if !refHas(x.Font, y) {
			return false
		}
	}
	for _, y := range x.Line {
		if y != of(-1, 0) && !refHas(x.Font, y) {
			return false
		}
	}
	return refFits(x.Measure, refLineItems(x))
}

func refLineItems(x impl.Machine) []int {
	var items []int
	for _, y := range x.Line {
		if y.Kind == -1 {
			items = append(items, 0)
		} else {
			items = append(items, x.Font.Widths[y.Kind])
		}
	}
	return items
}

func refItemsOf(x impl.Machine) []int {
	if !refMachineOk(x) {
		return nil
	}
	return refLineItems(x)
}

func refLineText(x impl.Machine) string {
	text := ""
	for i := range refItemsOf(x) {
		if x.Line[i].Kind == -1 {
			text += " "
		} else {
			text += refLetters(x.Font, x.Line[i:i+1])
		}
	}
	return text
}

func refNew(f impl.Font, each, spare int, m impl.Measure) (impl.Machine, bool) {
	filled, ok := refFill(f, each)
	x := impl.Machine{Font: f, Magazine: filled, Spare: spare, Measure: m}
	if !ok || !refMachineOk(x) {
		return impl.Machine{}, false
	}
	return x, true
}

func refKeyText(x impl.Machine, text string) (impl.Machine, int) {
	if !refMachineOk(x) {
		return impl.Machine{}, -1
	}
	for i := range len(text) {
		next, ok := refKeyByte(x, text[i])
		if !ok {
			return x, i
		}
		x = next
	}
	return x, len(text)
}

// refKeyByte takes the key as none if there is no machine behind it.
func refKeyByte(x impl.Machine, letter byte) (impl.Machine, bool) {
	next, item := x, of(-1, 0)
	if letter == ' ' {
		next.Spare--
	} else {
		m, y, ok := refTake(x.Font, x.Magazine, refKey(x.Font, int(letter)))
		if !ok {
			return x, false
		}
		next.Magazine, item = m, y
	}
	next.Line = append(slices.Clone(x.Line), item)
	return next, refMachineOk(next)
}

func refCast(x impl.Machine, ragged bool) (impl.Machine, string, []int, bool) {
	items := refItemsOf(x)
	if len(items) == 0 || !ragged && !refIsFull(x.Measure, items) {
		return impl.Machine{}, "", nil, false
	}
	next := x
	next.Line = nil
	next.Spare += refBands(items)
	letters := slices.DeleteFunc(slices.Clone(x.Line), func(y impl.Matrix) bool { return y.Kind == -1 })
	next.Waiting = slices.Concat(x.Waiting, letters)
	if !refMachineOk(next) {
		return impl.Machine{}, "", nil, false
	}
	return next, refLineText(x), refPlaces(x.Measure, items), true
}

func refDropWaiting(x impl.Machine, most int) (impl.Machine, int) {
	if !refMachineOk(x) || most < 0 {
		return impl.Machine{}, -1
	}
	for dropped := range most {
		if len(x.Waiting) == 0 {
			return x, dropped
		}
		m, _, ok := refDrop(x.Font, x.Magazine, x.Waiting[0])
		if !ok {
			return x, dropped
		}
		x.Magazine, x.Waiting = m, x.Waiting[1:]
	}
	return x, most
}

func refWearMachine(x impl.Machine, channel, i, tooth int) (impl.Machine, bool) {
	worn, ok := refWear(x.Font, x.Magazine, channel, i, tooth)
	if !ok || !refMachineOk(x) {
		return impl.Machine{}, false
	}
	x.Magazine = worn
	return x, true
}

func refCountAll(x impl.Machine) []int {
	if !refMachineOk(x) {
		return nil
	}
	all := slices.Concat(append(copied(x.Magazine), x.Line, x.Waiting)...)
	counts := make([]int, len(x.Font.Letters))
	for kind := range counts {
		for _, y := range all {
			if y.Kind == kind {
				counts[kind]++
			}
		}
	}
	return counts
}

func refSetLines(x impl.Machine, lines []string) (impl.Machine, []string, bool) {
	var texts []string
	for _, line := range lines {
		keyed, n := refKeyText(x, line)
		cast, text, _, ok := refCast(keyed, true)
		if n != len(line) || !ok {
			return impl.Machine{}, nil, false
		}
		x, _ = refDropWaiting(cast, 240)
		texts = append(texts, text)
	}
	if !refMachineOk(x) {
		return impl.Machine{}, nil, false
	}
	return x, texts, true
}

func refFaults(want, got string) ([]int, bool) {
	if len(want) != len(got) {
		return nil, false
	}
	var faults []int
	for i := range len(want) {
		if strings.Compare(want[i:i+1], got[i:i+1]) != 0 {
			faults = append(faults, i)
		}
	}
	return faults, true
}
