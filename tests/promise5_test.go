package tests

import (
	"math/rand/v2"
	"slices"
	"testing"

	"loop.example/g03230/impl"
)

// P5. Keying, casting and dropping keep all matrices and bands, and a machine
// without worn matrices casts what is keyed.

// stockOf returns how many of each matrix, and how many bands, the machine has.
func stockOf(x impl.Machine) map[impl.Matrix]int {
	stock := map[impl.Matrix]int{theBand: x.Spare}
	for _, y := range slices.Concat(append(copied(x.Magazine), x.Line, x.Waiting)...) {
		stock[y]++
	}
	return stock
}

// shift is a machine and what was keyed since its last cast.
type shift struct {
	t     *testing.T
	x     impl.Machine
	keyed string
	seen  map[string]int
}

func (s *shift) key(text string) {
	x, n := impl.KeyText(s.x, text)
	if n < 0 || n > len(text) || len(x.Line) != len(s.x.Line)+n || !slices.Equal(x.Line[:len(s.x.Line)], s.x.Line) {
		s.t.Fatalf("%d bytes of %q were keyed into %+v: %+v", n, text, s.x, x)
	}
	s.x, s.keyed = x, s.keyed+text[:n]
	s.seen["keyed"] += n
}

// cast returns the faults of the line that was cast.
func (s *shift) cast(ragged bool) []int {
	x, text, places, ok := impl.CastLine(s.x, ragged)
	if !ok {
		s.seen["not cast"]++
		return nil
	}
	if len(places) != len(text) || len(x.Line) != 0 || text != impl.LineText(s.x) || len(x.Waiting) < len(s.x.Waiting) {
		s.t.Fatalf("%q at %v was cast from %+v: %+v", text, places, s.x, x)
	}
	faults, same := impl.FaultsOf(s.keyed, text)
	if !same {
		s.t.Fatalf("%q was cast for %q", text, s.keyed)
	}
	s.x, s.keyed = x, ""
	s.seen["cast"]++
	return faults
}

func (s *shift) drop(most int) {
	x, n := impl.DropWaiting(s.x, most)
	if n < 0 || n > most || len(x.Waiting) != len(s.x.Waiting)-n || !slices.Equal(x.Waiting, s.x.Waiting[n:]) {
		s.t.Fatalf("%d of %d were dropped by %+v: %+v", n, most, s.x, x)
	}
	if n < most && len(x.Waiting) > 0 {
		s.seen["no room"]++
	}
	s.x = x
	s.seen["dropped"] += n
}

func (s *shift) wear(random *rand.Rand) {
	channel := random.IntN(len(s.x.Magazine))
	if x, ok := impl.WearMachine(s.x, channel, random.IntN(20), random.IntN(7)); ok {
		if !slices.Equal(impl.CountAll(x), impl.CountAll(s.x)) || x.Spare != s.x.Spare {
			s.t.Fatalf("%+v was worn to %+v", s.x, x)
		}
		s.x = x
		s.seen["worn"]++
	}
}

// step does some work and returns the faults of what was cast by it.
func (s *shift) step(random *rand.Rand) []int {
	var faults []int
	stock, counts := stockOf(s.x), impl.CountAll(s.x)
	switch random.IntN(5) {
	case 0, 1:
		s.key(pick(random, textsFor(random, s.x.Font, 30)...))
	case 2:
		faults = s.cast(false)
	case 3:
		faults = s.cast(true)
	default:
		s.drop(pick(random, 0, 1, 3, 240))
	}
	if !impl.MachineOk(s.x) || !sameStock(stockOf(s.x), stock) || !slices.Equal(impl.CountAll(s.x), counts) {
		s.t.Fatalf("matrices or bands of %+v came or went", s.x)
	}
	return faults
}

// measuresToWork are wide enough for some letters, so that lines are cast.
func measuresToWork(random *rand.Rand) impl.Measure {
	thin := 1 + random.IntN(8)
	return measure(pick(random, 60, 120, 300, 2000), thin, thin+random.IntN(30))
}

func TestMatricesAndBandsAreKept(t *testing.T) {
	random := rand.New(rand.NewPCG(1886, 27))
	seen := map[string]int{}
	for _, f := range slices.Concat(machineFonts(), randomFonts(12, 10)) {
		for range 6 {
			x, ok := impl.NewMachine(f, pick(random, 1, 3, 20), pick(random, 0, 5, 60), measuresToWork(random))
			if !ok {
				t.Fatalf("%v has no machine", f)
			}
			s := &shift{t: t, x: x, seen: seen}
			for range 120 {
				if len(s.step(random)) > 0 {
					seen["cast with faults"]++
				}
				for range 3 {
					s.wear(random)
				}
			}
		}
		for range 6 {
			x := randomMachine(random, f)
			s := &shift{t: t, x: x, keyed: impl.LineText(x), seen: seen}
			for range 30 {
				s.step(random)
			}
		}
	}
	checkSeen(t, seen, "keyed", "cast", "not cast", "dropped", "no room", "worn", "cast with faults")
}

func TestWhatIsKeyedIsCast(t *testing.T) {
	random := rand.New(rand.NewPCG(1886, 28))
	seen := map[string]int{}
	for _, f := range slices.Concat(machineFonts(), randomFonts(12, 40)) {
		for range 5 {
			x, ok := impl.NewMachine(f, pick(random, 1, 3, 20), pick(random, 0, 5, 60), measuresToWork(random))
			if !ok {
				t.Fatalf("%v has no machine", f)
			}
			s := &shift{t: t, x: x, seen: seen}
			for range 50 {
				if faults := s.step(random); len(faults) != 0 {
					t.Fatalf("a machine without worn matrices casts faults at %v: %+v", faults, s.x)
				}
				if impl.CountStrays(f, s.x.Magazine) != 0 || impl.LineText(s.x) != s.keyed {
					t.Fatalf("unworn matrices went astray in %+v", s.x)
				}
			}
			s.cast(true)
			s.drop(240)
			if !sameMachine(s.x, x) {
				t.Fatalf("%+v came home to %+v", x, s.x)
			}
		}
	}
	if seen["cast"] < 200 {
		t.Errorf("only %d lines were cast", seen["cast"])
	}
}

func TestLinesThatAreSetAreCastAsTheyAre(t *testing.T) {
	random := rand.New(rand.NewPCG(1886, 29))
	set := 0
	for _, f := range slices.Concat(machineFonts(), randomFonts(12, 40)) {
		x, ok := impl.NewMachine(f, 4, 8, measuresToWork(random))
		if !ok {
			t.Fatalf("%v has no machine", f)
		}
		for _, lines := range linesFor(random, f, 40) {
			after, texts, ok := impl.SetLines(x, lines)
			if ok && (!slices.Equal(texts, lines) || !sameMachine(after, x)) {
				t.Fatalf("%q was cast for %q by %+v: %+v", texts, lines, x, after)
			}
			if ok && len(lines) > 0 {
				set++
			}
		}
	}
	if set < 100 {
		t.Errorf("only %d lists of lines were set", set)
	}
}
