package tests

import (
	"math/rand/v2"
	"slices"
	"testing"

	"loop.example/g03230/impl"
)

// P8 for arguments with several faults at once: nothing leaves a function by a
// panic, and what is no machine is answered by zero values.

// anyNumber is mostly small, so that some of what is made of it is nearly right.
func anyNumber(random *rand.Rand) int {
	return pick(random, 0, 0, 1, 2, 3, -1, 5, 6, 7, 20, 60, random.IntN(130), pick(random, extremes...))
}

func anyNumbers(random *rand.Rand) []int {
	var list []int
	for range random.IntN(5) {
		list = append(list, anyNumber(random))
	}
	return list
}

func anyMatrices(random *rand.Rand) []impl.Matrix {
	var list []impl.Matrix
	for range random.IntN(pick(random, 1, 4, 30)) {
		list = append(list, of(anyNumber(random), anyNumber(random)))
	}
	return list
}

func anyText(random *rand.Rand) string {
	return pick(random, "", "a", "abc", "ab c", "aa", " ", "a a a", "\xff", "\u00e9a", "abc abc", "~!", "key a", "put 0 a", "put 1 ")
}

// anyDesk takes each of its parts from a desk or makes one of anything.
func anyDesk(random *rand.Rand) impl.Desk {
	m := measure(20, 2, 6)
	x := twoOfEach(3, m)
	d := impl.Desk{Machine: x, Galley: pick(random, nil, []string{"ab c", "ab"}, []string{"ab"})}
	change := func(part func()) {
		if random.IntN(4) == 0 {
			part()
		}
	}
	change(func() { d.Machine.Font.Letters = anyText(random) })
	change(func() { d.Machine.Font.Widths = anyNumbers(random) })
	change(func() { d.Machine.Font.Codes = anyNumbers(random) })
	change(func() {
		d.Machine.Magazine = nil
		for range random.IntN(5) {
			d.Machine.Magazine = append(d.Machine.Magazine, anyMatrices(random))
		}
	})
	change(func() { d.Machine.Spare = anyNumber(random) })
	change(func() { d.Machine.Measure = measure(anyNumber(random), anyNumber(random), anyNumber(random)) })
	change(func() { d.Machine.Line = anyMatrices(random) })
	change(func() { d.Machine.Waiting = anyMatrices(random) })
	change(func() { d.Galley = []string{anyText(random), anyText(random)} })
	return d
}

func TestSeveralFaultsAtOnce(t *testing.T) {
	random := rand.New(rand.NewPCG(1886, 48))
	seen := map[string]int{}
	for range 20000 {
		d := anyDesk(random)
		isDesk := impl.DeskOk(d)
		if isDesk != refDeskOk(d) {
			t.Fatalf("DeskOk(%+v) = %v", d, isDesk)
		}
		count(seen, "desks", isDesk)
		count(seen, "no desks", !isDesk)
		callForMagazine(t, random, d.Machine.Font, d.Machine.Magazine)
		callForMachine(t, random, d.Machine, d.Galley)
		checkCommand(t, d, pick(random, slices.Concat(aloneWords, []string{anyText(random), "key a", "set ab", "measure 20 2 6"})...), seen)
	}
	checkSeen(t, seen, "desks", "no desks")
}

func callForMagazine(t *testing.T, random *rand.Rand, f impl.Font, m [][]impl.Matrix) {
	t.Helper()
	filled, isFilled := impl.FillMagazine(f, anyNumber(random))
	taken, x, isTaken := impl.TakeMatrix(f, m, anyNumber(random))
	dropped, place, isDropped := impl.DropMatrix(f, m, of(anyNumber(random), anyNumber(random)))
	worn, isWorn := impl.WearMatrix(f, m, anyNumber(random), anyNumber(random), anyNumber(random))
	swept, n, isSwept := impl.SweepMagazine(f, m)
	if !impl.FontOk(f) && (isFilled || len(filled) != 0 || impl.KeyOf(f, anyNumber(random)) != -1 || impl.LettersOf(f, anyMatrices(random)) != "") {
		t.Fatalf("%+v counts as a font", f)
	}
	if impl.MagazineOk(f, m) {
		return
	}
	if isTaken || isDropped || isWorn || isSwept || len(taken)+len(dropped)+len(worn)+len(swept)+place+n != 0 || x != of(0, 0) || impl.CountStrays(f, m) != -1 || impl.CountWorn(f, m) != -1 || len(impl.KindCounts(f, m)) != 0 {
		t.Fatalf("%+v counts as a magazine of %+v", m, f)
	}
}

func callForMachine(t *testing.T, random *rand.Rand, x impl.Machine, galley []string) {
	t.Helper()
	keyed, n := impl.KeyText(x, anyText(random))
	cast, text, places, isCast := impl.CastLine(x, random.IntN(2) == 0)
	dropped, dropN := impl.DropWaiting(x, random.IntN(3))
	worn, isWorn := impl.WearMachine(x, anyNumber(random), anyNumber(random), anyNumber(random))
	set, texts, isSet := impl.SetLines(x, galley)
	run, faults, isRun := impl.CastGalley(x, galley)
	corrected, isCorrected := impl.ReplaceWord(x.Font, x.Measure, galley, anyNumber(random), anyText(random))
	if isCorrected != impl.GalleyOk(x.Font, x.Measure, corrected) {
		t.Fatalf("%q of %+v was corrected to %q, %v", galley, x, corrected, isCorrected)
	}
	if impl.MachineOk(x) {
		return
	}
	for _, y := range []impl.Machine{keyed, cast, dropped, worn, set, run} {
		if !sameMachine(y, impl.Machine{}) {
			t.Fatalf("%+v counts as a machine", x)
		}
	}
	if n != -1 || dropN != -1 || isCast || isWorn || isSet || isRun || text != "" || len(places)+len(texts)+len(faults)+len(impl.ItemsOf(x))+len(impl.CountAll(x)) != 0 || impl.LineText(x) != "" {
		t.Fatalf("%+v counts as a machine", x)
	}
}
