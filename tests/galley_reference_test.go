package tests

import (
	"slices"
	"strings"

	"loop.example/g03230/impl"
)

// The reference follows the sentences of chapter 7 with the bytes of the strings,
// on the reference of the chapters before: a galley is looked at as its lines say,
// and a reset is found by trying all numbers of equal strings.

func refWords(text string) []string {
	return slices.DeleteFunc(strings.Split(text, " "), func(word string) bool { return word == "" })
}

func refWordWidths(f impl.Font, text string) ([]int, bool) {
	if !refFontOk(f) {
		return nil, false
	}
	var widths []int
	for _, word := range refWords(text) {
		width := 0
		for i := range len(word) {
			kind := strings.IndexByte(f.Letters, word[i])
			if kind < 0 {
				return nil, false
			}
			width += f.Widths[kind]
		}
		widths = append(widths, width)
	}
	if !refTextOk(widths) {
		return nil, false
	}
	return widths, true
}

// refLines writes the words of each line with one blank between neighbors.
func refLines(words []string, breaking []int) []string {
	var lines []string
	for i, n := range breaking {
		line := ""
		for j, word := range words[sum(breaking[:i]) : sum(breaking[:i])+n] {
			if j > 0 {
				line += " "
			}
			line += word
		}
		lines = append(lines, line)
	}
	return lines
}

func refSetGalley(f impl.Font, m impl.Measure, text string) ([]string, bool) {
	widths, ok := refWordWidths(f, text)
	if !ok {
		return nil, false
	}
	breaking, ok := refGreedy(m, widths)
	if !ok {
		return nil, false
	}
	return refLines(refWords(text), breaking), true
}

func refGalleyText(galley []string) string {
	text := ""
	for i, line := range galley {
		if i > 0 {
			text += " "
		}
		text += line
	}
	return text
}

func refGalleyOk(f impl.Font, m impl.Measure, galley []string) bool {
	var breaking []int
	for _, line := range galley {
		if line == "" || line[0] == ' ' || line[len(line)-1] == ' ' || strings.Contains(line, "  ") {
			return false
		}
		breaking = append(breaking, strings.Count(line, " ")+1)
	}
	widths, ok := refWordWidths(f, refGalleyText(galley))
	return ok && refIsBreaking(m, widths, breaking)
}

func refReplace(f impl.Font, m impl.Measure, galley []string, index int, text string) ([]string, bool) {
	if !refGalleyOk(f, m, galley) || index < 0 {
		return nil, false
	}
	line := 0
	for ; line < len(galley) && index >= len(refWords(galley[line])); line++ {
		index -= len(refWords(galley[line]))
	}
	if line == len(galley) {
		return nil, false
	}
	words := refWords(refGalleyText(galley[line:]))
	words = slices.Concat(words[:index], refWords(text), words[index+1:])
	if len(words) == 0 {
		return galley[:line], line > 0
	}
	anew, ok := refSetGalley(f, m, refGalleyText(words))
	corrected := slices.Concat(galley[:line], anew)
	if !ok || !refGalleyOk(f, m, corrected) {
		return nil, false
	}
	return corrected, true
}

func refReset(before, after []string) (int, int, int) {
	n := min(len(before), len(after))
	first := n
	for !slices.Equal(before[:first], after[:first]) {
		first--
	}
	last := n - first
	for !slices.Equal(before[len(before)-last:], after[len(after)-last:]) {
		last--
	}
	return first, len(before) - first - last, len(after) - first - last
}

func refApply(before []string, first, out int, lines []string) ([]string, bool) {
	if first < 0 || first > len(before) || out < 0 || out > len(before[first:]) {
		return nil, false
	}
	var after []string
	for i, line := range before {
		if i == first {
			after = append(after, lines...)
		}
		if i < first || i >= first+out {
			after = append(after, line)
		}
	}
	if first == len(before) {
		after = append(after, lines...)
	}
	return after, true
}

func refMarks(before, after []string) string {
	first, out, in := refReset(before, after)
	marks := ""
	for range before[:first] {
		marks += "="
	}
	for range out {
		marks += "-"
	}
	for range in {
		marks += "+"
	}
	for range before[first+out:] {
		marks += "="
	}
	return marks
}

func refCastGalley(x impl.Machine, galley []string) (impl.Machine, []int, bool) {
	if !refMachineOk(x) || !refGalleyOk(x.Font, x.Measure, galley) || len(x.Line) != 0 {
		return impl.Machine{}, nil, false
	}
	after, texts, ok := refSetLines(x, galley)
	if !ok {
		return impl.Machine{}, nil, false
	}
	var faults []int
	for i := range galley {
		if differ, _ := refFaults(galley[i], texts[i]); len(differ) > 0 {
			faults = append(faults, i)
		}
	}
	return after, faults, true
}
