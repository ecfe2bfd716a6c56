package tests

import (
	"slices"

	"loop.example/g03230/impl"
)

// The reference follows the sentences of chapter 4: numbers are found by trying
// them, and widths by adding one item after the other.

func refMeasureOk(m impl.Measure) bool {
	return m.Width >= 1 && m.Width <= 2000 && m.Thin >= 1 && m.Thin <= 100 && m.Thick >= m.Thin && m.Thick <= 100
}

func refLineOk(line []int) bool {
	for _, item := range line {
		if item < 0 || item > 60 {
			return false
		}
	}
	return len(line) <= 120
}

// refWidth returns how wide the line is with bands of this width.
func refWidth(line []int, each int) int {
	width := 0
	for _, item := range line {
		if item == 0 {
			item = each
		}
		width += item
	}
	return width
}

func refBands(line []int) int {
	return len(slices.DeleteFunc(slices.Clone(line), func(item int) bool { return item != 0 }))
}

func refFits(m impl.Measure, line []int) bool {
	return refMeasureOk(m) && refLineOk(line) && refWidth(line, m.Thin) <= m.Width
}

func refWidthsOf(m impl.Measure, line []int) (int, int, bool) {
	if !refMeasureOk(m) || !refLineOk(line) {
		return 0, 0, false
	}
	return refWidth(line, m.Thin), refWidth(line, m.Thick), true
}

func refSpread(m impl.Measure, line []int) (int, int, bool) {
	if !refFits(m, line) {
		return 0, 0, false
	}
	if refBands(line) == 0 {
		return 0, m.Width - refWidth(line, 0), true
	}
	rise := m.Thick - m.Thin
	for refWidth(line, m.Thin+rise) > m.Width {
		rise--
	}
	return rise, m.Width - refWidth(line, m.Thin+rise), true
}

func refIsFull(m impl.Measure, line []int) bool {
	_, rest, ok := refSpread(m, line)
	return ok && (rest == 0 || rest < refBands(line))
}

// refBandWidths makes one band after the other wider until a full line is as
// wide as the measure.
func refBandWidths(m impl.Measure, line []int) []int {
	rise, _, ok := refSpread(m, line)
	if !ok {
		return nil
	}
	widths := repeated(m.Thin+rise, refBands(line))
	if !refIsFull(m, line) {
		return widths
	}
	letters := refWidth(line, 0)
	for i := 0; letters+sum(widths) < m.Width; i++ {
		widths[i]++
	}
	return widths
}

func sum(list []int) int {
	total := 0
	for _, n := range list {
		total += n
	}
	return total
}

func refPlaces(m impl.Measure, line []int) []int {
	if !refFits(m, line) {
		return nil
	}
	widths := slices.Clone(line)
	bands := refBandWidths(m, line)
	for i := range widths {
		if line[i] == 0 {
			widths[i] = bands[refBands(line[:i])]
		}
	}
	var places []int
	for i := range widths {
		places = append(places, sum(widths[:i]))
	}
	return places
}

func refCountFitting(m impl.Measure, line, more []int) int {
	if !refFits(m, line) || !refLineOk(more) {
		return -1
	}
	n := len(more)
	for !refFits(m, slices.Concat(line, more[:n])) {
		n--
	}
	return n
}

func refAreQuads(quads []int) bool {
	for i, width := range quads {
		if width < 1 || width > 60 || i > 0 && width >= quads[i-1] {
			return false
		}
	}
	return len(quads) >= 1 && len(quads) <= 8
}

func refQuad(m impl.Measure, line, quads []int) ([]int, bool) {
	return refBlanks(m, line, quads, 0)
}

func refCenter(m impl.Measure, line, quads []int) ([]int, bool) {
	return refBlanks(m, line, quads, 1)
}

// refBlanks adds as many letters before the line as before says, and one behind
// it each time.
func refBlanks(m impl.Measure, line, quads []int, before int) ([]int, bool) {
	if !refFits(m, line) || !refAreQuads(quads) {
		return nil, false
	}
	for again := true; again; {
		again = false
		for _, width := range quads {
			if longer := append(append(repeated(width, before), line...), width); refFits(m, longer) {
				line, again = longer, true
				break
			}
		}
	}
	return line, true
}
