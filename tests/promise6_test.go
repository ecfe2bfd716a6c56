package tests

import (
	"math/rand/v2"
	"slices"
	"strings"
	"testing"

	"loop.example/g03230/impl"
)

// P6. Corrections reset a galley from the line of the word on, and the lines
// between two galleys make one of the other.

// wordAt returns the line that has the word, and which of its words it is.
func wordAt(galley []string, index int) (int, int) {
	for line := range galley {
		n := strings.Count(galley[line], " ") + 1
		if index < n {
			return line, index
		}
		index -= n
	}
	return len(galley), index
}

func TestCorrectionsResetFromTheLineOfTheWord(t *testing.T) {
	random := rand.New(rand.NewPCG(1886, 35))
	seen := map[string]int{}
	for _, f := range slices.Concat(galleyFonts(), randomFonts(10, 12)) {
		for _, text := range wordingsFor(random, f, 30) {
			for _, m := range fewMeasures(random, f, text) {
				for _, galley := range galleysFor(random, f, m, text, 1) {
					correct(t, random, f, m, galley, seen)
				}
			}
		}
	}
	checkSeen(t, seen, "refused", "corrected", "behind lines that stay", "corrected by none", "corrected by several", "without the last line", "refused with a galley behind")
}

// correct goes on with the galley that each correction returns.
func correct(t *testing.T, random *rand.Rand, f impl.Font, m impl.Measure, galley []string, seen map[string]int) {
	t.Helper()
	for range 12 {
		index := random.IntN(len(strings.Fields(impl.GalleyText(galley))))
		text := correctionFor(random, f, galley, index)
		if random.IntN(4) == 0 {
			text = strings.Repeat(" ", random.IntN(3))
		}
		corrected, ok := impl.ReplaceWord(f, m, galley, index, text)
		line, place := wordAt(galley, index)
		checkCorrection(t, f, m, galley, line, place, text, corrected, ok, seen)
		if ok {
			checkBothWays(t, galley, corrected)
			galley = corrected
		}
	}
}

func checkCorrection(t *testing.T, f impl.Font, m impl.Measure, galley []string, line, place int, text string, corrected []string, ok bool, seen map[string]int) {
	t.Helper()
	left := strings.Fields(impl.GalleyText(galley[line:]))
	words := refWords(text)
	left = slices.Concat(left[:place], words, left[place+1:])
	behind, isSet := impl.SetGalley(f, m, strings.Join(left, " "))
	whole := slices.Concat(galley[:line], behind)
	want := (isSet || len(left) == 0) && impl.GalleyOk(f, m, whole)
	if ok != want || ok && !slices.Equal(corrected, whole) || !ok && len(corrected) != 0 {
		t.Fatalf("the line %d of %q was reset to %q, %v; want %q, %v", line, galley, corrected, ok, whole, want)
	}
	if !ok {
		seen["refused"]++
		if isSet {
			seen["refused with a galley behind"]++
		}
		return
	}
	if first, _, _ := impl.ResetOf(galley, corrected); first < line || !impl.GalleyOk(f, m, corrected) {
		t.Fatalf("a correction in the line %d of %q made %q", line, galley, corrected)
	}
	count(seen, "corrected", true)
	count(seen, "behind lines that stay", line > 0)
	count(seen, "corrected by none", len(words) == 0)
	count(seen, "corrected by several", len(words) > 1)
	count(seen, "without the last line", len(left) == 0)
}

func count(seen map[string]int, name string, is bool) {
	if is {
		seen[name]++
	}
}

// checkBothWays makes each of two lists of strings of the other one with the
// lines between them.
func checkBothWays(t *testing.T, before, after []string) {
	t.Helper()
	first, out, in := impl.ResetOf(before, after)
	there, ok := impl.ApplyReset(before, first, out, after[first:first+in])
	back, backOk := impl.ApplyReset(after, first, in, before[first:first+out])
	if !ok || !backOk || !slices.Equal(there, after) || !slices.Equal(back, before) {
		t.Fatalf("%q and %q make %q and %q of each other", before, after, there, back)
	}
	backFirst, backOut, backIn := impl.ResetOf(after, before)
	if backFirst != first || backOut != in || backIn != out {
		t.Fatalf("%q and %q differ in another place than %q and %q", before, after, after, before)
	}
	checkMarks(t, before, after, impl.MarksOf(before, after))
}

// checkMarks follows the marks: each one but a plus is for a string of before,
// each one but a minus for one of after.
func checkMarks(t *testing.T, before, after []string, marks string) {
	t.Helper()
	i, j := 0, 0
	for _, mark := range marks {
		switch {
		case mark == '=' && i < len(before) && j < len(after) && before[i] == after[j]:
			i, j = i+1, j+1
		case mark == '-':
			i++
		case mark == '+':
			j++
		default:
			t.Fatalf("the marks %q do not make %q of %q", marks, after, before)
		}
	}
	if i != len(before) || j != len(after) {
		t.Fatalf("the marks %q are not for all of %q and %q", marks, before, after)
	}
	// A string that could stay is not between.
	if strings.Contains(marks, "-+") && !strings.HasSuffix(marks, "=") && before[len(before)-1] == after[len(after)-1] {
		t.Fatalf("the marks %q take the end out of %q and %q", marks, before, after)
	}
	if slices.Equal(before, after) != (strings.Trim(marks, "=") == "") {
		t.Fatalf("the marks %q are for %q and %q", marks, before, after)
	}
}

func TestLinesBetweenMakeOneOfTheOther(t *testing.T) {
	lists := stringLists()
	for _, before := range lists {
		for _, after := range lists {
			checkBothWays(t, before, after)
		}
	}
	random := rand.New(rand.NewPCG(1886, 36))
	for _, f := range galleyFonts() {
		for _, text := range wordingsFor(random, f, 20) {
			m := pick(random, measuresForWording(random, f, text)...)
			galleys := galleysFor(random, f, m, text, 4)
			for _, before := range galleys {
				for _, after := range galleys {
					checkBothWays(t, before, after)
				}
			}
		}
	}
}
