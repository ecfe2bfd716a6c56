package tests

import (
	"math/rand/v2"
	"slices"
	"testing"

	"loop.example/g03230/impl"
)

// P8 for chapter 6: every function returns what the chapter specifies.

func sameMachine(a, b impl.Machine) bool {
	return a.Font.Letters == b.Font.Letters && slices.Equal(a.Font.Widths, b.Font.Widths) && slices.Equal(a.Font.Codes, b.Font.Codes) &&
		sameMagazine(a.Magazine, b.Magazine) && a.Spare == b.Spare && a.Measure == b.Measure &&
		slices.Equal(a.Line, b.Line) && slices.Equal(a.Waiting, b.Waiting)
}

// checkSeen fails if a test came to hardly any case with one of the names.
func checkSeen(t *testing.T, seen map[string]int, names ...string) {
	t.Helper()
	t.Log(seen)
	for _, name := range names {
		if seen[name] < 20 {
			t.Errorf("only %d cases are: %s", seen[name], name)
		}
	}
}

func TestNewMachines(t *testing.T) {
	measures := append(some(badMeasures()), measure(1, 1, 1), measure(2000, 100, 100), measure(30, 2, 5))
	for _, f := range slices.Concat(machineFonts(), some(badFonts()), randomFonts(5, 40)) {
		for _, each := range []int{-1, 0, 1, 19, 20, 21} {
			for _, spare := range []int{-1, 0, 1, 59, 60, 61} {
				for _, m := range measures {
					checkNew(t, f, each, spare, m)
				}
			}
		}
	}
	for _, n := range extremes {
		checkNew(t, abcFont(), n, 3, measure(30, 2, 5))
		checkNew(t, abcFont(), 2, n, measure(30, 2, 5))
		checkNew(t, abcFont(), 2, 3, measure(n, 2, 5))
	}
}

func checkNew(t *testing.T, f impl.Font, each, spare int, m impl.Measure) {
	t.Helper()
	want, wantOk := refNew(f, each, spare, m)
	if got, ok := impl.NewMachine(f, each, spare, m); ok != wantOk || !sameMachine(got, want) {
		t.Errorf("NewMachine(%v, %d, %d, %+v) = %+v, %v; want %+v, %v", f, each, spare, m, got, ok, want, wantOk)
	}
}

func TestMachines(t *testing.T) {
	random := rand.New(rand.NewPCG(1886, 23))
	seen := map[string]int{}
	for _, f := range slices.Concat(machineFonts(), randomFonts(12, 8), randomFonts(3, 40)) {
		for _, x := range machines(random, f, 25) {
			if !impl.MachineOk(x) || !refMachineOk(x) {
				t.Fatalf("%+v is a machine", x)
			}
			checkMachine(t, random, x, seen)
		}
	}
	checkSeen(t, seen, "keyed whole", "keyed in part", "full and cast", "loose and cast", "loose", "cast beyond a limit", "dropped all", "dropped in part", "worn", "set", "not set")
}

func TestWhatIsNoMachine(t *testing.T) {
	random := rand.New(rand.NewPCG(1886, 24))
	for _, x := range badMachines() {
		if impl.MachineOk(x) || refMachineOk(x) {
			t.Fatalf("%+v is no machine", x)
		}
		checkMachine(t, random, x, map[string]int{})
	}
}

// checkMachine holds all functions that are given a machine against the
// reference.
func checkMachine(t *testing.T, random *rand.Rand, x impl.Machine, seen map[string]int) {
	t.Helper()
	if got, want := impl.ItemsOf(x), refItemsOf(x); !slices.Equal(got, want) {
		t.Errorf("ItemsOf(%+v) = %v; want %v", x, got, want)
	}
	if got, want := impl.LineText(x), refLineText(x); got != want {
		t.Errorf("LineText(%+v) = %q; want %q", x, got, want)
	}
	if got, want := impl.CountAll(x), refCountAll(x); !slices.Equal(got, want) {
		t.Errorf("CountAll(%+v) = %v; want %v", x, got, want)
	}
	for _, text := range textsFor(random, x.Font, 8) {
		checkKeyed(t, x, text, seen)
	}
	for _, ragged := range []bool{false, true} {
		checkCast(t, x, ragged, seen)
	}
	n := len(x.Waiting)
	for _, most := range append(some(extremes), -1, 0, 1, 2, n-1, n, n+1, 239, 240, 241) {
		checkDropped(t, x, most, seen)
	}
	for _, channel := range append(some(extremes), -1, 0, len(x.Font.Letters)-1, len(x.Font.Letters)) {
		for _, i := range append(some(extremes), -1, 0, 1, 19, 20) {
			for _, tooth := range []int{-1, 0, 1, 6, 7, random.IntN(7), pick(random, extremes...)} {
				checkWornMachine(t, x, channel, i, tooth, seen)
			}
		}
	}
	for _, lines := range linesFor(random, x.Font, 8) {
		checkLinesSet(t, x, lines, seen)
	}
}

func checkKeyed(t *testing.T, x impl.Machine, text string, seen map[string]int) {
	t.Helper()
	want, wantN := refKeyText(x, text)
	if got, n := impl.KeyText(x, text); n != wantN || !sameMachine(got, want) {
		t.Errorf("KeyText(%+v, %q) = %+v, %d; want %+v, %d", x, text, got, n, want, wantN)
	}
	if wantN == len(text) {
		seen["keyed whole"]++
	} else if wantN > 0 {
		seen["keyed in part"]++
	}
}

func checkCast(t *testing.T, x impl.Machine, ragged bool, seen map[string]int) {
	t.Helper()
	want, text, places, ok := refCast(x, ragged)
	if got, gotText, gotPlaces, gotOk := impl.CastLine(x, ragged); gotOk != ok || gotText != text || !slices.Equal(gotPlaces, places) || !sameMachine(got, want) {
		t.Errorf("CastLine(%+v, %v) = %+v, %q, %v, %v; want %+v, %q, %v, %v", x, ragged, got, gotText, gotPlaces, gotOk, want, text, places, ok)
	}
	isFull := refIsFull(x.Measure, refItemsOf(x))
	switch {
	case len(refItemsOf(x)) == 0:
	case ok && isFull:
		seen["full and cast"]++
	case ok:
		seen["loose and cast"]++
	case isFull || ragged:
		seen["cast beyond a limit"]++
	default:
		seen["loose"]++
	}
}

func checkDropped(t *testing.T, x impl.Machine, most int, seen map[string]int) {
	t.Helper()
	want, wantN := refDropWaiting(x, most)
	if got, n := impl.DropWaiting(x, most); n != wantN || !sameMachine(got, want) {
		t.Errorf("DropWaiting(%+v, %d) = %+v, %d; want %+v, %d", x, most, got, n, want, wantN)
	}
	if wantN > 0 && len(want.Waiting) == 0 {
		seen["dropped all"]++
	} else if wantN > 0 && wantN < most {
		seen["dropped in part"]++
	}
}

func checkWornMachine(t *testing.T, x impl.Machine, channel, i, tooth int, seen map[string]int) {
	t.Helper()
	want, wantOk := refWearMachine(x, channel, i, tooth)
	if got, ok := impl.WearMachine(x, channel, i, tooth); ok != wantOk || !sameMachine(got, want) {
		t.Errorf("WearMachine(%+v, %d, %d, %d) = %+v, %v; want %+v, %v", x, channel, i, tooth, got, ok, want, wantOk)
	}
	if wantOk {
		seen["worn"]++
	}
}

func checkLinesSet(t *testing.T, x impl.Machine, lines []string, seen map[string]int) {
	t.Helper()
	want, texts, wantOk := refSetLines(x, lines)
	if got, gotTexts, ok := impl.SetLines(x, lines); ok != wantOk || !slices.Equal(gotTexts, texts) || !sameMachine(got, want) {
		t.Errorf("SetLines(%+v, %q) = %+v, %q, %v; want %+v, %q, %v", x, lines, got, gotTexts, ok, want, texts, wantOk)
	}
	if wantOk && len(lines) > 1 {
		seen["set"]++
	} else if !wantOk && len(lines) > 1 {
		seen["not set"]++
	}
}

func TestFaults(t *testing.T) {
	random := rand.New(rand.NewPCG(1886, 25))
	texts := append(textsFor(random, abcFont(), 60), "", "a", "b", "ab", "ba", "aa", "\x00", "\xff", "\u00e9", "\u00e8", "\xc3a", "a\x00b", "a\xffb")
	for _, want := range texts {
		for _, got := range texts {
			checkFaults(t, want, got)
		}
	}
	for range 300 {
		want := pick(random, texts...)
		got := []byte(want)
		for range random.IntN(5) {
			if len(got) > 0 {
				got[random.IntN(len(got))] = byte(random.IntN(256))
			}
		}
		checkFaults(t, want, string(got))
		checkFaults(t, want, string(got)+"a")
		checkFaults(t, "a"+want, string(got))
	}
}

func checkFaults(t *testing.T, want, got string) {
	t.Helper()
	faults, ok := refFaults(want, got)
	if list, listOk := impl.FaultsOf(want, got); listOk != ok || !slices.Equal(list, faults) {
		t.Errorf("FaultsOf(%q, %q) = %v, %v; want %v, %v", want, got, list, listOk, faults, ok)
	}
}
