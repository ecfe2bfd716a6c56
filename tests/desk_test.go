package tests

import (
	"math/rand/v2"
	"slices"
	"strings"
	"testing"

	"loop.example/g03230/impl"
)

// P8 for chapter 8: every function returns what the chapter specifies.

func sameDesk(a, b impl.Desk) bool {
	return sameMachine(a.Machine, b.Machine) && slices.Equal(a.Galley, b.Galley)
}

func TestWrittenNumbers(t *testing.T) {
	lists := append(shortLists([]int{0, 1, -1, 10, -203}), extremes, repeated(-12, 500), upTo(-150, 300))
	for _, n := range extremes {
		lists = append(lists, []int{n}, []int{n, n}, []int{0, n, 1})
	}
	for _, list := range lists {
		text := impl.FormatNumbers(list)
		if text != refFormat(list) {
			t.Errorf("FormatNumbers(%v) = %q", list, text)
		}
		if back, ok := impl.ParseNumbers(text); !ok || !slices.Equal(back, list) {
			t.Errorf("ParseNumbers(%q) = %v, %v", text, back, ok)
		}
	}
}

func TestReadNumbers(t *testing.T) {
	lists := 0
	for _, text := range numberTexts() {
		want, wantOk := refParse(text)
		got, ok := impl.ParseNumbers(text)
		if ok != wantOk || !slices.Equal(got, want) {
			t.Errorf("ParseNumbers(%q) = %v, %v; want %v, %v", text, got, ok, want, wantOk)
		}
		if ok && impl.FormatNumbers(got) != text {
			t.Errorf("%v was read from %q and is written %q", got, text, impl.FormatNumbers(got))
		}
		if ok {
			lists++
		}
	}
	if lists < 100 {
		t.Errorf("only %d texts are lists", lists)
	}
}

func TestDesks(t *testing.T) {
	random := rand.New(rand.NewPCG(1886, 37))
	seen := map[string]int{}
	for _, f := range slices.Concat(galleyFonts(), randomFonts(8, 12)) {
		for _, d := range desksFor(random, f, 30) {
			checkDesk(t, d, seen)
			if len(d.Galley) > 0 {
				for _, list := range spoiledGalleys(random, d.Galley) {
					checkDesk(t, impl.Desk{Machine: d.Machine, Galley: list}, seen)
				}
			}
			checkDesk(t, impl.Desk{Machine: pick(random, badMachines()...), Galley: d.Galley}, seen)
			d.Machine.Measure.Width += pick(random, -1, 1)
			checkDesk(t, d, seen)
			d.Machine.Font = abcFont()
			checkDesk(t, d, seen)
		}
	}
	for _, d := range badDesks() {
		if impl.DeskOk(d) || refDeskOk(d) {
			t.Fatalf("%+v is no desk", d)
		}
	}
	checkSeen(t, seen, "desks", "desks with a galley", "no desks", "no desks with a machine")
}

func checkDesk(t *testing.T, d impl.Desk, seen map[string]int) {
	t.Helper()
	want := refDeskOk(d)
	if got := impl.DeskOk(d); got != want {
		t.Errorf("DeskOk(%+v) = %v", d, got)
	}
	count(seen, "desks", want)
	count(seen, "desks with a galley", want && len(d.Galley) > 0)
	count(seen, "no desks", !want)
	count(seen, "no desks with a machine", !want && refMachineOk(d.Machine))
}

func TestLinesOfDesks(t *testing.T) {
	random := rand.New(rand.NewPCG(1886, 38))
	seen := map[string]int{}
	for _, f := range slices.Concat(galleyFonts(), randomFonts(6, 12)) {
		for _, d := range desksFor(random, f, 50) {
			if !impl.DeskOk(d) {
				t.Fatalf("%+v is a desk", d)
			}
			for _, line := range append(commandsFor(random, d), some(linesThatAreNone())...) {
				checkCommand(t, d, line, seen)
			}
		}
	}
	checkSeen(t, seen, performed("cast no", "ragged no", "sweep no", "show no", "breaks no", "best no", "run no", "drop no", "wear no", "measure no", "set no", "put no", "run with faults", "what")...)
}

// checkCommand returns the desk, so that a test can go on with it.
func checkCommand(t *testing.T, d impl.Desk, line string, seen map[string]int) impl.Desk {
	t.Helper()
	want, wantAnswer := refRunLine(d, line)
	got, answer := impl.RunLine(d, line)
	if answer != wantAnswer || !sameDesk(got, want) {
		t.Errorf("RunLine(%+v, %q) = %+v, %q; want %+v, %q", d, line, got, answer, want, wantAnswer)
	}
	word, _, _ := strings.Cut(line, " ")
	switch {
	case answer == "what" || answer == "bad":
		seen[answer]++
	case answer == "no":
		seen[word+" no"]++
	default:
		seen[word+" performed"]++
	}
	count(seen, "run with faults", word == "run" && strings.Trim(answer, "0123456789 ") == "")
	return got
}

// performed returns the names and, for each of the commands, what checkCommand
// counts when it is performed.
func performed(names ...string) []string {
	for _, word := range slices.Concat(aloneWords, givenWords) {
		names = append(names, word+" performed")
	}
	return names
}

// Each command comes to what the ones before it made of the desk.
func TestLinesThatFollowOneAnother(t *testing.T) {
	random := rand.New(rand.NewPCG(1886, 39))
	seen := map[string]int{}
	for _, f := range slices.Concat(galleyFonts(), randomFonts(6, 8)) {
		for _, d := range desksFor(random, f, 50) {
			for range 40 {
				d = checkCommand(t, d, commandFor(random, d), seen)
			}
		}
	}
	checkSeen(t, seen, performed("cast no", "ragged no", "show no", "breaks no", "best no", "run no", "wear no", "measure no", "set no", "put no")...)
}

func TestLinesThatAreNone(t *testing.T) {
	random := rand.New(rand.NewPCG(1886, 40))
	desks := []impl.Desk{refNewDesk(), {Machine: twoOfEach(3, measure(20, 2, 6)), Galley: []string{"ab c", "ab"}}}
	for _, f := range galleyFonts() {
		desks = append(desks, pick(random, desksFor(random, f, 9)...))
	}
	for _, d := range desks {
		for _, line := range linesThatAreNone() {
			if got, answer := impl.RunLine(d, line); answer != "what" || !sameDesk(got, d) {
				t.Errorf("RunLine(%+v, %q) = %+v, %q", d, line, got, answer)
			}
		}
	}
}

func TestWhatIsNoDesk(t *testing.T) {
	random := rand.New(rand.NewPCG(1886, 41))
	good := impl.Desk{Machine: twoOfEach(3, measure(20, 2, 6)), Galley: []string{"ab c", "ab"}}
	if !impl.DeskOk(good) {
		t.Fatalf("%+v is a desk", good)
	}
	for _, bad := range badDesks() {
		lines := append(some(commandsFor(random, good)), some(linesThatAreNone())...)
		for _, line := range slices.Concat(lines, aloneWords, []string{"", "hello", "key a", "measure 60 2 8", "set a"}) {
			if got, answer := impl.RunLine(bad, line); answer != "bad" || !sameDesk(got, bad) {
				t.Fatalf("RunLine(%+v, %q) = %+v, %q", bad, line, got, answer)
			}
		}
	}
}

func TestScripts(t *testing.T) {
	random := rand.New(rand.NewPCG(1886, 42))
	fixed := []string{"", "\n", "\n\n", " \n", "\r\n", "line", "line\n", "line\n\n", "\nline", "line\r\nline\r\n", "line\x00line", "line\n\nline\n", "\n\n\nline\n\n\n", "what\nno\nbad"}
	for _, n := range []int{1, 2, 58, 59, 60, 61, 62, 1000} {
		for _, line := range []string{"", "line", "key no", "wear 0 0 0", "hello"} {
			text := strings.Repeat(line+"\n", n)
			fixed = append(fixed, text, text[:len(text)-1], text+"\n", text+line)
		}
	}
	for _, text := range fixed {
		checkScript(t, text)
	}
	for range 150 {
		text := strings.Join(randomScript(random, random.IntN(62)), "\n")
		checkScript(t, text)
		checkScript(t, text+"\n")
	}
}

func checkScript(t *testing.T, text string) {
	t.Helper()
	want, wantN := refRunScript(text)
	if got, n := impl.RunScript(text); n != wantN || got != want {
		t.Errorf("RunScript(%q) = %q, %d; want %q, %d", text, got, n, want, wantN)
	}
}
