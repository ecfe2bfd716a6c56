package tests

import (
	"math/rand/v2"
	"slices"
	"testing"

	"loop.example/g03230/impl"
)

// P8 for chapter 7: every function returns what the chapter specifies.

func TestWordings(t *testing.T) {
	random := rand.New(rand.NewPCG(1886, 30))
	for _, f := range slices.Concat(galleyFonts(), randomFonts(12, 40)) {
		for _, text := range wordingsFor(random, f, 25) {
			if _, ok := refWordWidths(f, text); !ok {
				t.Fatalf("%q is a wording of %v", text, f)
			}
			checkWording(t, f, text)
		}
		for _, text := range noWordings(f) {
			if _, ok := refWordWidths(f, text); ok {
				t.Fatalf("%q is no wording of %v", text, f)
			}
			checkWording(t, f, text)
		}
	}
	for _, f := range badFonts() {
		for _, text := range []string{"", "a", "abc", "ab c", " ", f.Letters} {
			checkWording(t, f, text)
		}
	}
}

func checkWording(t *testing.T, f impl.Font, text string) {
	t.Helper()
	want, wantOk := refWordWidths(f, text)
	if got, ok := impl.WordWidths(f, text); ok != wantOk || !slices.Equal(got, want) {
		t.Errorf("WordWidths(%v, %q) = %v, %v; want %v, %v", f, text, got, ok, want, wantOk)
	}
}

func TestGalleys(t *testing.T) {
	random := rand.New(rand.NewPCG(1886, 31))
	seen := map[string]int{}
	for _, f := range slices.Concat(galleyFonts(), randomFonts(6, 12)) {
		for _, text := range slices.Concat(wordingsFor(random, f, 10), noWordings(f)) {
			for _, m := range append(fewMeasures(random, f, text), pick(random, badMeasures()...)) {
				checkSetGalley(t, f, m, text, seen)
				for _, galley := range galleysFor(random, f, m, text, 2) {
					checkGalley(t, random, f, m, galley, seen)
				}
			}
		}
	}
	checkSeen(t, seen, "set", "not set", "galleys", "no galleys", "replaced", "not replaced", "without a line", "too many words")
}

func checkSetGalley(t *testing.T, f impl.Font, m impl.Measure, text string, seen map[string]int) {
	t.Helper()
	want, wantOk := refSetGalley(f, m, text)
	if got, ok := impl.SetGalley(f, m, text); ok != wantOk || !slices.Equal(got, want) {
		t.Errorf("SetGalley(%v, %+v, %q) = %q, %v; want %q, %v", f, m, text, got, ok, want, wantOk)
	}
	if wantOk {
		seen["set"]++
	} else {
		seen["not set"]++
	}
}

func checkGalley(t *testing.T, random *rand.Rand, f impl.Font, m impl.Measure, galley []string, seen map[string]int) {
	t.Helper()
	if !impl.GalleyOk(f, m, galley) || !refGalleyOk(f, m, galley) {
		t.Fatalf("%q is a galley of %v and %+v", galley, f, m)
	}
	n := len(refWords(refGalleyText(galley)))
	for _, index := range []int{-1, 0, random.IntN(n), random.IntN(n), n - 1, n, n + 1, pick(random, extremes...)} {
		checkReplaced(t, f, m, galley, index, correctionFor(random, f, galley, index), seen)
		checkReplaced(t, f, m, galley, index, "", seen)
	}
	for _, list := range spoiledGalleys(random, galley) {
		checkMaybeGalley(t, f, m, list, seen)
		checkReplaced(t, f, m, list, random.IntN(n), correctionFor(random, f, galley, 0), seen)
	}
	other := m
	other.Width += pick(random, -1, 1)
	checkMaybeGalley(t, f, other, galley, seen)
	checkMaybeGalley(t, f, pick(random, badMeasures()...), galley, seen)
	checkMaybeGalley(t, pick(random, badFonts()...), m, galley, seen)
	checkReplaced(t, pick(random, badFonts()...), m, galley, 0, "a", seen)
	checkReplaced(t, f, pick(random, badMeasures()...), galley, 0, galley[0], seen)
}

// correctionFor returns the word itself, other words, or what is no wording.
func correctionFor(random *rand.Rand, f impl.Font, galley []string, index int) string {
	words := refWords(refGalleyText(galley))
	if index >= 0 && index < len(words) && random.IntN(4) == 0 {
		return words[index]
	}
	if random.IntN(5) == 0 {
		return pick(random, noWordings(f)...)
	}
	if random.IntN(3) == 0 {
		return pick(random, words...)
	}
	return randomWording(random, f, pick(random, 1, 2, 3, 41-len(words), 42-len(words)))
}

func checkMaybeGalley(t *testing.T, f impl.Font, m impl.Measure, galley []string, seen map[string]int) {
	t.Helper()
	want := refGalleyOk(f, m, galley)
	if got := impl.GalleyOk(f, m, galley); got != want {
		t.Errorf("GalleyOk(%v, %+v, %q) = %v", f, m, galley, got)
	}
	if got := impl.GalleyText(galley); got != refGalleyText(galley) {
		t.Errorf("GalleyText(%q) = %q", galley, got)
	}
	if want {
		seen["galleys"]++
	} else {
		seen["no galleys"]++
	}
}

func checkReplaced(t *testing.T, f impl.Font, m impl.Measure, galley []string, index int, text string, seen map[string]int) {
	t.Helper()
	want, wantOk := refReplace(f, m, galley, index, text)
	if got, ok := impl.ReplaceWord(f, m, galley, index, text); ok != wantOk || !slices.Equal(got, want) {
		t.Errorf("ReplaceWord(%v, %+v, %q, %d, %q) = %q, %v; want %q, %v", f, m, galley, index, text, got, ok, want, wantOk)
	}
	n := len(refWords(refGalleyText(galley)))
	switch {
	case wantOk && len(want) < len(galley) && slices.Equal(want, galley[:len(want)]):
		seen["without a line"]++
	case wantOk:
		seen["replaced"]++
	case refGalleyOk(f, m, galley) && index >= len(refWords(galley[0])) && index < n && n+len(refWords(text)) == 42:
		seen["too many words"]++
	default:
		seen["not replaced"]++
	}
}

func TestGalleysWithoutAFontOrAMeasure(t *testing.T) {
	good, at, galley := abcFont(), measure(20, 2, 6), []string{"ab c", "ab"}
	checkSetGalley(t, good, at, "ab c ab", map[string]int{})
	checkReplaced(t, good, at, galley, 2, "c", map[string]int{})
	for _, f := range badFonts() {
		checkNoGalley(t, f, at, galley)
	}
	for _, m := range badMeasures() {
		checkNoGalley(t, good, m, galley)
	}
}

func checkNoGalley(t *testing.T, f impl.Font, m impl.Measure, galley []string) {
	t.Helper()
	set, isSet := impl.SetGalley(f, m, impl.GalleyText(galley))
	corrected, isCorrected := impl.ReplaceWord(f, m, galley, 2, "c")
	if isSet || isCorrected || len(set) != 0 || len(corrected) != 0 || impl.GalleyOk(f, m, galley) {
		t.Errorf("a galley of %v and %+v: %q, %q", f, m, set, corrected)
	}
}

// All breakings of a short text make a galley, and no other list of its words does.
func TestGalleysOfShortTexts(t *testing.T) {
	f := impl.Font{Letters: "axw", Widths: []int{2, 6, 60}, Codes: []int{1, 2, 4}}
	galleys, none := 0, 0
	for _, text := range []string{"a", "x", "a a", "a a a a a a", "a a a a x", "a a a a a x", "aa a x a aa", "x x a a a a a"} {
		widths, _ := refWordWidths(f, text)
		for width := 1; width <= 24; width++ {
			m := measure(width, 1, 4)
			breakings := refBreakings(m, widths)
			for _, split := range refSplits(len(widths)) {
				galley := refLines(refWords(text), split)
				want := refIndex(breakings, split) >= 0
				if got := impl.GalleyOk(f, m, galley); got != want {
					t.Errorf("GalleyOk(%v, %+v, %q) = %v", f, m, galley, got)
				}
				if want {
					galleys++
				} else {
					none++
				}
			}
		}
	}
	if galleys < 100 || none < 100 {
		t.Errorf("only %d lists are galleys and %d are none", galleys, none)
	}
}

func TestResets(t *testing.T) {
	lists := stringLists()
	for _, before := range lists {
		for _, after := range lists {
			checkReset(t, before, after)
			checkApplied(t, before, len(after)-2, len(after), after)
			for first := -1; first <= len(before)+1; first++ {
				for out := -1; out <= len(before)+1; out++ {
					checkApplied(t, before, first, out, after[:len(after)/2])
				}
			}
		}
		for _, n := range extremes {
			for _, other := range append(some(extremes), 0, 1, len(before)) {
				checkApplied(t, before, n, other, []string{"z"})
				checkApplied(t, before, other, n, []string{"z"})
			}
		}
	}
}

func TestRandomResets(t *testing.T) {
	random := rand.New(rand.NewPCG(1886, 32))
	for range 2000 {
		kinds := 1 + random.IntN(3)
		lists := make([][]string, 3)
		for i := range lists {
			for range random.IntN(30) {
				lists[i] = append(lists[i], []string{"a", "b", ""}[random.IntN(kinds)])
			}
		}
		checkReset(t, lists[0], lists[1])
		checkReset(t, slices.Concat(lists[0], lists[1], lists[2]), slices.Concat(lists[0], lists[2]))
		checkReset(t, slices.Concat(lists[0], lists[2]), slices.Concat(lists[0], lists[1], lists[2]))
		checkApplied(t, lists[0], random.IntN(len(lists[0])+1), random.IntN(12), lists[1])
	}
}

func checkReset(t *testing.T, before, after []string) {
	t.Helper()
	first, out, in := refReset(before, after)
	if gotFirst, gotOut, gotIn := impl.ResetOf(before, after); gotFirst != first || gotOut != out || gotIn != in {
		t.Errorf("ResetOf(%q, %q) = %d, %d, %d; want %d, %d, %d", before, after, gotFirst, gotOut, gotIn, first, out, in)
	}
	if got, want := impl.MarksOf(before, after), refMarks(before, after); got != want {
		t.Errorf("MarksOf(%q, %q) = %q; want %q", before, after, got, want)
	}
	if got := impl.GalleyText(before); got != refGalleyText(before) {
		t.Errorf("GalleyText(%q) = %q", before, got)
	}
}

func checkApplied(t *testing.T, before []string, first, out int, lines []string) {
	t.Helper()
	want, wantOk := refApply(before, first, out, lines)
	if got, ok := impl.ApplyReset(before, first, out, lines); ok != wantOk || !slices.Equal(got, want) {
		t.Errorf("ApplyReset(%q, %d, %d, %q) = %q, %v; want %q, %v", before, first, out, lines, got, ok, want, wantOk)
	}
}

// machineFor returns a machine of the measure, with or without worn matrices and
// strays, in most cases one without a line.
func machineFor(random *rand.Rand, f impl.Font, m impl.Measure) impl.Machine {
	x, _ := refNew(f, pick(random, 1, 5, 20), pick(random, 0, 3, 60), m)
	if random.IntN(2) == 0 {
		y := randomMachine(random, f)
		x.Magazine, x.Waiting = y.Magazine, y.Waiting
	}
	switch random.IntN(8) {
	case 0:
		x.Line = []impl.Matrix{theBand}
	case 1:
		x.Line = randomMatrices(random, f, 1)
	}
	return x
}

func TestGalleysThatAreCast(t *testing.T) {
	random := rand.New(rand.NewPCG(1886, 33))
	seen := map[string]int{}
	for _, f := range slices.Concat(galleyFonts(), randomFonts(6, 12)) {
		for _, text := range wordingsFor(random, f, 15) {
			for _, m := range fewMeasures(random, f, text) {
				for _, galley := range galleysFor(random, f, m, text, 1) {
					checkCastGalley(t, machineFor(random, f, m), galley, seen)
					checkCastGalley(t, machineFor(random, f, m), galley, seen)
					x := machineFor(random, f, m)
					checkCastGalley(t, x, pick(random, spoiledGalleys(random, galley)...), seen)
					checkCastGalley(t, pick(random, badMachines()...), galley, seen)
					x.Measure.Width++
					checkCastGalley(t, x, galley, seen)
				}
			}
		}
	}
	checkSeen(t, seen, "clean", "with faults", "of several lines", "not cast", "with a line")
}

func checkCastGalley(t *testing.T, x impl.Machine, galley []string, seen map[string]int) {
	t.Helper()
	want, faults, wantOk := refCastGalley(x, galley)
	if got, gotFaults, ok := impl.CastGalley(x, galley); ok != wantOk || !slices.Equal(gotFaults, faults) || !sameMachine(got, want) {
		t.Errorf("CastGalley(%+v, %q) = %+v, %v, %v; want %+v, %v, %v", x, galley, got, gotFaults, ok, want, faults, wantOk)
	}
	if wantOk && len(galley) > 1 {
		seen["of several lines"]++
	}
	_, _, isSet := refSetLines(x, galley)
	switch {
	case wantOk && len(faults) > 0:
		seen["with faults"]++
	case wantOk:
		seen["clean"]++
	case isSet && len(x.Line) > 0:
		seen["with a line"]++
	default:
		seen["not cast"]++
	}
}
