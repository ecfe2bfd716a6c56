package tests

import (
	"math"
	"slices"
	"strings"
	"testing"

	"loop.example/g03230/impl"
)

// The reference could share a misreading with the program: these values were
// worked out by hand from chapter 8. The widths of a, e, i, n, o, s and t are 5,
// 5, 3, 6, 6, 5 and 4.

func TestNumbersByHand(t *testing.T) {
	for text, list := range map[string][]int{
		"": nil, "0": {0}, "1 -2": {1, -2}, "-1": {-1}, "0 0 0": {0, 0, 0}, "10 200 -3000": {10, 200, -3000},
		"9223372036854775807 -9223372036854775808": {math.MaxInt, math.MinInt}, "9223372036854775806 -9223372036854775807": {math.MaxInt - 1, math.MinInt + 1},
	} {
		got, ok := impl.ParseNumbers(text)
		if !ok || !slices.Equal(got, list) || impl.FormatNumbers(list) != text {
			t.Errorf("%q is read as %v, %v, and %v is written %q", text, got, ok, list, impl.FormatNumbers(list))
		}
	}
	for _, text := range []string{
		" ", "  ", "01", "00", "-0", "-01", "+1", "+0", "1  2", " 1", "1 ", "1 2 ", " 1 2", "1 -", "- 1", "-", "--1", "1-", "1 01", "1 -0", "0 +1", "1\t2", "1\n", "\n", "1,2", "1.5", "1e2", "0x1", "1_000", "a", "\x00", "\xff", "\u0661",
		"9223372036854775808", "-9223372036854775809", "1 9223372036854775808", "18446744073709551617", "-18446744073709551615", strings.Repeat("9", 100),
	} {
		if got, ok := impl.ParseNumbers(text); ok || len(got) != 0 {
			t.Errorf("ParseNumbers(%q) = %v, %v", text, got, ok)
		}
	}
}

func TestTheNewDeskByHand(t *testing.T) {
	want := impl.Machine{
		Font:    impl.Font{Letters: "aeinost", Widths: []int{5, 5, 3, 6, 6, 5, 4}, Codes: []int{3, 5, 6, 9, 10, 12, 17}},
		Spare:   20,
		Measure: impl.Measure{Width: 60, Thin: 2, Thick: 8},
	}
	for kind, teeth := range want.Font.Codes {
		want.Magazine = append(want.Magazine, slices.Repeat([]impl.Matrix{of(kind, teeth)}, 10))
	}
	if d := impl.NewDesk(); !impl.DeskOk(d) || !sameMachine(d.Machine, want) || len(d.Galley) != 0 {
		t.Errorf("NewDesk() = %+v", d)
	}
}

func TestDesksByHand(t *testing.T) {
	d := impl.NewDesk()
	for _, galley := range [][]string{nil, {}, {"tea at noon"}, {"tea at noon", "tea at noon"}, {"tea at noon", "a"}, {"a"}, {strings.Repeat("a", 12)}, {strings.Repeat("a", 12), "a"}} {
		d.Galley = galley
		if !impl.DeskOk(d) {
			t.Errorf("a desk has %q", galley)
		}
	}
	for _, galley := range [][]string{{""}, {" "}, {"tea at", "noon"}, {"tea at noon "}, {"tea  at noon"}, {"tea at noon", ""}, {"tea at none!"}, {"TEA"}, {strings.Repeat("a", 13)}, {"tea at noon tea"}} {
		d.Galley = galley
		if impl.DeskOk(d) {
			t.Errorf("no desk has %q", galley)
		}
	}
	d.Galley = []string{"tea at noon", "a"}
	for _, m := range []impl.Measure{measure(61, 2, 6), measure(50, 2, 8), measure(60, 8, 2), measure(math.MinInt, 2, 8), {}} {
		other := d
		other.Machine.Measure = m
		if impl.DeskOk(other) {
			t.Errorf("%q is no galley of %+v", d.Galley, m)
		}
	}
	if d.Machine = twoOfEach(3, measure(60, 2, 8)); impl.DeskOk(d) {
		t.Errorf("%q is no galley of %v", d.Galley, d.Machine.Font)
	}
	if impl.DeskOk(impl.Desk{}) || impl.DeskOk(impl.Desk{Galley: []string{"a"}}) {
		t.Error("a desk without a machine")
	}
}

// checkDialog tells the lines to the desk, each with the answer behind an arrow.
func checkDialog(t *testing.T, d impl.Desk, dialog ...string) impl.Desk {
	t.Helper()
	for _, both := range dialog {
		line, want, _ := strings.Cut(both, "->")
		after, answer := impl.RunLine(d, line)
		if answer != want {
			t.Errorf("the answer to %q is %q; want %q", line, answer, want)
		}
		if (answer == "no" || answer == "what" || answer == "bad") && !sameDesk(after, d) {
			t.Errorf("%q was refused, and %+v came to be %+v", line, d, after)
		}
		d = after
	}
	return d
}

func TestAnEmptyDeskByHand(t *testing.T) {
	d := checkDialog(t, impl.NewDesk(),
		"line-> | 0 60", "stock->10 10 10 10 10 10 10", "strays->0 0", "cast->no", "ragged->no", "sweep->0", "drop 0->0", "drop 5->0", "drop 9223372036854775807->0", "drop -1->no", "drop -9223372036854775808->no",
		"show->no", "breaks->no", "best->no", "run->no", "put 0 a->no", "put 0 ->no", "put -1 a->no", "put 9223372036854775807 a->no", "set ->no", "set    ->no", "key ->0", "key A->0", "key !a->0", "key \n->0",
		"->what", " ->what", "what->what", "lines->what", "LINE->what", "Line->what", " line->what", "line ->what", "line 1->what", "line\n->what",
		"key->what", "set->what", "put->what", "put ->what", "put  ->what", "put 0->what", "put  0 a->what", "put 01 a->what", "put a->what", "put a a->what", "put +0 a->what", "put -0 a->what", "put 9223372036854775808 a->what",
		"drop->what", "drop ->what", "drop  1->what", "drop 1 ->what", "drop 1 2->what", "drop 01->what", "drop -0->what", "drop +1->what", "drop 9223372036854775808->what", "drop -9223372036854775809->what", "drop a->what",
		"wear->what", "wear ->what", "wear 0 0->what", "wear 0 0 0 0->what", "wear 0 0 0 ->what", "wear 0  0 0->what", "measure->what", "measure ->what", "measure 60 2->what", "measure 60 2 8 8->what", "measure 60 2 8 ->what", "measure  60 2 8->what", "KEY a->what", "Set a->what")
	if !sameDesk(d, impl.NewDesk()) {
		t.Errorf("an empty desk came to be %+v", d)
	}
}

func TestKeyingAndCastingByHand(t *testing.T) {
	d := checkDialog(t, impl.NewDesk(),
		"key one->3", "line->one | 0 43", "cast->no", "key  x->1", "line->one  | 6 35", "ragged->\"one \"", "line-> | 0 60", "ragged->no",
		"stock->10 10 10 10 10 10 10", "drop 2->2", "drop 2->1", "drop 2->0",
		// 14 + 9 + 24 and two bands of 2 + 4, of which one is wider by 1.
		"key tea at noon->11", "line->tea at noon | 4 1", "cast->\"tea at noon\"", "drop 0->0", "drop 240->9",
		"key   ->2", "line->   | 6 44", "cast->no", "ragged->\"  \"", "key aaaaaaaaaaa->10", "key eeee->2", "line->aaaaaaaaaaee | 0 0", "key i->0", "cast->\"aaaaaaaaaaee\"", "key  a->1", "line->  | 6 52", "ragged->\" \"", "drop 100->12")
	if !sameDesk(d, impl.NewDesk()) {
		t.Errorf("all came home to %+v", d)
	}
	d = checkDialog(t, d, "key  on ->4", "key ->0")
	if impl.LineText(d.Machine) != " on " || d.Machine.Spare != 18 {
		t.Errorf("two blanks and two letters were keyed: %+v", d)
	}
}

func TestWearAndSweepsByHand(t *testing.T) {
	// The i without the tooth 2 falls at the channel of a, behind ten of them.
	d := checkDialog(t, impl.NewDesk(),
		"wear 0 0 1->ok", "wear 0 0 1->no", "strays->0 1", "wear 0 0 0->ok", "strays->0 1", "wear 2 0 2->ok", "strays->0 2", "wear 2 0 0->no", "wear 2 10 1->no", "wear 7 0 0->no", "wear -1 0 0->no", "wear 0 -1 0->no", "wear 0 1 7->no", "wear 0 1 -1->no", "wear 0 1 9223372036854775807->no",
		"key i->1", "strays->0 1", "ragged->\"i\"", "sweep->0", "drop 9->1", "strays->1 2", "stock->10 10 10 10 10 10 10",
		"set aaaaaaaaaaa->1", "run->0", "set i i->1", "run->clean", "strays->1 2", "sweep->1", "strays->0 2", "sweep->0", "show->i i", "set aaaaaaaaaaa->1", "run->no", "set aaaaaaaaaa->1", "run->clean")
	if len(d.Machine.Magazine[2]) != 10 || d.Machine.Magazine[2][9] != of(2, 2) {
		t.Errorf("the worn i was swept into %+v", d.Machine.Magazine)
	}
	full := impl.Desk{Machine: with(twoOfEach(3, measure(20, 2, 6)), [][]impl.Matrix{{theA, theC}, nil, slices.Repeat([]impl.Matrix{theC}, 20)}, nil)}
	checkDialog(t, full, "strays->1 0", "sweep->no", "key c->1", "sweep->1", "stock->1 0 21", "strays->0 0", "wear 2 19 2->ok", "strays->0 1")
}

func TestMeasuresOfDesksByHand(t *testing.T) {
	d := checkDialog(t, impl.NewDesk(),
		"set a->1", "measure 0 2 8->no", "measure -1 2 8->no", "measure 2001 2 8->no", "measure 60 0 8->no", "measure 60 8 2->no", "measure 60 2 101->no", "measure 9223372036854775807 2 8->no", "measure 60 -9223372036854775808 8->no", "show->a",
		"measure 2000 100 100->ok", "show->no", "line-> | 0 2000", "measure 1 1 1->ok", "key i->0", "measure 60 2 8->ok", "set a->1", "key one->3", "measure 16 2 8->no", "show->a", "line->one | 0 43", "measure 17 2 8->ok", "show->no", "line->one | 0 0", "cast->\"one\"",
		"key on e->3", "line->on  | 3 0", "measure 13 2 8->no", "measure 14 2 8->ok", "line->on  | 0 0", "measure 14 3 8->no", "measure 60 2 8->ok", "set a->1", "measure 60 2 8->ok", "show->no")
	if d.Machine.Measure != measure(60, 2, 8) {
		t.Errorf("the measure is %+v", d.Machine.Measure)
	}
}

func TestGalleysOfDesksByHand(t *testing.T) {
	d := checkDialog(t, impl.NewDesk(),
		"set tea at noon->1", "show->tea at noon", "breaks->1", "best->3", "put 1 sea->-+", "show->tea sea noon", "run->clean", "set  tea  at  noon tea at noon ->2", "show->tea at noon|tea at noon", "breaks->1", "best->3 3", "run->clean",
		"set tea!->no", "set ->no", "set tea\n->no", "set aaaaaaaaaaaaa->no", "show->tea at noon|tea at noon", "key a->1", "run->no", "ragged->\"a\"", "run->clean", "stock->10 10 10 10 10 10 10", "drop 1->0")
	if !slices.Equal(d.Galley, []string{"tea at noon", "tea at noon"}) {
		t.Errorf("the galley is %q", d.Galley)
	}
	// Two words t are full with 8 between them, which costs 36, three with 2.
	checkDialog(t, d, "measure 16 2 8->ok",
		"set t t t t t t->2", "breaks->4", "best->3 3", "set t t t t t t t->3", "breaks->5", "best->3 3 1", "show->t t t|t t t|t",
		"set t t t t t tttt->3", "show->t t t|t t|tttt", "breaks->2", "best->2 3 1", "run->clean")
}

func TestCorrectionsOfDesksByHand(t *testing.T) {
	d := checkDialog(t, impl.NewDesk(), "measure 16 2 8->ok", "set t t t t t tttt->3",
		"put 3 ->no", "put 3   ->no", "put 6 t->no", "put 6 ->no", "put -1 t->no", "put 9223372036854775807 ->no", "put -9223372036854775808 t->no", "put 5 t!->no", "put 5 ttttt->no", "put 5->what", "put 5\tt->what", "put 05 t->what", "put 5t t->what", "show->t t t|t t|tttt",
		"put 5 t->==-+", "show->t t t|t t|t", "put 5 ->==-", "show->t t t|t t", "put 0 t->==", "put 4  t ->==", "put 0   tttt   ->--+++", "show->tttt|t t t|t", "put 4 t t->==-+", "show->tttt|t t t|t t", "put 0 ->-==", "put 0    ->=-+", "show->t t t|t", "put 2 a->--++", "show->t t|a t", "put 3 ->=-+", "show->t t|a")
	if len(d.Galley) == 0 {
		t.Error("the galley is gone")
	}
}

func TestWhatIsNoDeskByHand(t *testing.T) {
	d := impl.NewDesk()
	d.Galley = []string{"tea", "at"}
	checkDialog(t, d, "line->bad", "->bad", "hello->bad", "key a->bad", "set a->bad", "measure 60 2 8->bad", "put 0 a->bad")
	checkDialog(t, impl.Desk{}, "line->bad", "measure 60 2 8->bad", "->bad")
	d = impl.NewDesk()
	d.Machine.Spare = math.MinInt
	checkDialog(t, d, "line->bad", "key a->bad")
}

func TestScriptsByHand(t *testing.T) {
	empty := " | 0 60\n"
	for _, c := range []struct {
		text, answers string
		n             int
	}{
		{"", "", 0}, {"\n", "what\n", 1}, {"\n\n", "what\nwhat\n", 2}, {"\n\n\n", "what\nwhat\nwhat\n", 3}, {" ", "what\n", 1}, {"line", empty, 1}, {"line\n", empty, 1}, {"line\n\n", empty + "what\n", 2}, {"line\n\n\n", empty + "what\nwhat\n", 3},
		{"\nline", "what\n" + empty, 2}, {"line\r\nline", "what\n" + empty, 2}, {"line\n\nline", empty + "what\n" + empty, 3}, {"hello\nkey a\nline\ncast\nline", "what\n1\na | 0 55\nno\na | 0 55\n", 5}, {"key a\rb\nline", "1\na | 0 55\n", 2}, {"key \n", "0\n", 1},
		{strings.Repeat("line\n", 60), strings.Repeat(empty, 60), 60}, {strings.Repeat("line\n", 59) + "line", strings.Repeat(empty, 60), 60}, {strings.Repeat("line\n", 60) + "line", "", -1}, {strings.Repeat("line\n", 61), "", -1}, {strings.Repeat("line\n", 60) + "\n", "", -1},
		{strings.Repeat("\n", 60), strings.Repeat("what\n", 60), 60}, {strings.Repeat("\n", 61), "", -1}, {strings.Repeat("\n", 59) + "line", strings.Repeat("what\n", 59) + empty, 60}, {strings.Repeat("\n", 60) + "line", "", -1}, {strings.Repeat("\n", 100000), "", -1},
	} {
		if got, n := impl.RunScript(c.text); got != c.answers || n != c.n {
			t.Errorf("RunScript(%q) = %q, %d", c.text, got, n)
		}
	}
}
