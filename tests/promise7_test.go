package tests

import (
	"math/rand/v2"
	"slices"
	"strings"
	"testing"

	"loop.example/g03230/impl"
)

// P7. The desk performs lines one after the other and keeps what it refuses.

// tellingLines leave every desk as it is.
var tellingLines = []string{"line", "stock", "strays", "show", "breaks", "best", "key ", "drop 0"}

func isRefused(answer string) bool { return answer == "no" || answer == "what" || answer == "bad" }

// bandsOf returns the number of all bands of the machine.
func bandsOf(x impl.Machine) int { return x.Spare + strings.Count(impl.LineText(x), " ") }

// perform checks what holds for each line and returns the desk and the answer.
func perform(t *testing.T, d impl.Desk, line string, seen map[string]int) (impl.Desk, string) {
	t.Helper()
	after, answer := impl.RunLine(d, line)
	if again, same := impl.RunLine(d, line); same != answer || !sameDesk(again, after) {
		t.Fatalf("%q is answered %q and %q by %+v", line, answer, same, d)
	}
	if isRefused(answer) && !sameDesk(after, d) {
		t.Fatalf("%q was refused, and %+v came to be %+v", line, d, after)
	}
	if !impl.DeskOk(after) || !slices.Equal(impl.CountAll(after.Machine), impl.CountAll(d.Machine)) || bandsOf(after.Machine) != bandsOf(d.Machine) {
		t.Fatalf("%q made %+v of %+v", line, after, d)
	}
	if slices.Contains(tellingLines, line) && !sameDesk(after, d) {
		t.Fatalf("%q was told by %+v, which came to be %+v", line, d, after)
	}
	count(seen, "refused", isRefused(answer))
	count(seen, "performed", !isRefused(answer))
	count(seen, "changed", !sameDesk(after, d))
	return after, answer
}

func TestLinesArePerformedOneAfterTheOther(t *testing.T) {
	random := rand.New(rand.NewPCG(1886, 44))
	seen := map[string]int{}
	for range 200 {
		lines := randomScript(random, 1+random.IntN(60))
		d, answers := impl.NewDesk(), ""
		for i, line := range lines {
			var answer string
			d, answer = perform(t, d, line, seen)
			answers += answer + "\n"
			if random.IntN(10) == 0 {
				checkPart(t, lines[:i+1], answers)
			}
		}
		checkPart(t, lines, answers)
	}
	checkSeen(t, seen, "refused", "performed", "changed")
}

// checkPart runs the lines as a script: what follows them does not change their
// answers, nor does a newline at the end.
func checkPart(t *testing.T, lines []string, answers string) {
	t.Helper()
	text := strings.Join(lines, "\n") + "\n"
	if got, n := impl.RunScript(text); n != len(lines) || got != answers {
		t.Fatalf("RunScript(%q) = %q, %d; want %q", text, got, n, answers)
	}
	if text = text[:len(text)-1]; text != "" && !strings.HasSuffix(text, "\n") {
		if got, n := impl.RunScript(text); n != len(lines) || got != answers {
			t.Fatalf("RunScript(%q) = %q, %d; want %q", text, got, n, answers)
		}
	}
}

// A script without the lines that were refused is answered as with them.
func TestRefusedLinesAreAsIfTheyWereNot(t *testing.T) {
	random := rand.New(rand.NewPCG(1886, 45))
	refused := 0
	for range 300 {
		lines := randomScript(random, 1+random.IntN(60))
		got, _ := impl.RunScript(strings.Join(lines, "\n") + "\n")
		answers := strings.Split(got, "\n")
		var left []string
		want := ""
		for i, line := range lines {
			if isRefused(answers[i]) {
				refused++
			} else {
				left = append(left, line+"\n")
				want += answers[i] + "\n"
			}
		}
		if got, n := impl.RunScript(strings.Join(left, "")); got != want || n != len(left) {
			t.Fatalf("without the lines that were refused %q is answered %q; want %q", lines, got, want)
		}
	}
	if refused < 300 {
		t.Errorf("only %d lines were refused", refused)
	}
}

func TestDesksKeepWhatTheyRefuse(t *testing.T) {
	random := rand.New(rand.NewPCG(1886, 46))
	seen := map[string]int{}
	for _, f := range slices.Concat(galleyFonts(), randomFonts(8, 12)) {
		for _, d := range desksFor(random, f, 20) {
			for _, line := range slices.Concat(some(commandsFor(random, d)), some(linesThatAreNone()), aloneWords, tellingLines) {
				perform(t, d, line, seen)
			}
			for range 20 {
				d, _ = perform(t, d, commandFor(random, d), seen)
			}
		}
	}
	checkSeen(t, seen, "refused", "performed", "changed")
}

// The desk goes on after a line that was refused, for each way in which one is.
func TestTheDeskGoesOnAfterEachRefusal(t *testing.T) {
	refused := []string{"cast", "ragged", "drop -1", "wear 7 0 0", "wear 0 0 6", "measure 0 2 8", "set ", "set !", "put 3 a", "put 0 !", "run", "show", "breaks", "best"}
	for _, line := range append(linesThatAreNone(), refused...) {
		if strings.Contains(line, "\n") {
			continue
		}
		want := "what"
		if slices.Contains(refused, line) {
			want = "no"
		}
		want += "\n3\ntea | 0 46\n\"tea\"\n"
		if got, n := impl.RunScript(line + "\nkey tea\nline\nragged"); n != 4 || got != want {
			t.Errorf("behind %q the answers are %q, %d", line, got, n)
		}
	}
}

func TestScriptsOfTooManyLinesAreNotPerformed(t *testing.T) {
	random := rand.New(rand.NewPCG(1886, 47))
	for range 30 {
		lines := randomScript(random, 61)
		whole, part := strings.Join(lines, "\n"), strings.Join(lines[:60], "\n")
		for _, text := range []string{whole + "x", whole + "x\n", part + "\n\n\n", "\n" + part + "x\n", strings.Repeat("\n", 61) + whole} {
			if got, n := impl.RunScript(text); got != "" || n != -1 {
				t.Fatalf("RunScript(%q) = %q, %d", text, got, n)
			}
		}
		if _, n := impl.RunScript(part + "\n"); n != 60 {
			t.Fatalf("RunScript(%q) has %d lines", part, n)
		}
	}
}
