package tests

import (
	"math"
	"slices"
	"strings"
	"testing"

	"loop.example/g03230/impl"
)

// The reference could share a misreading with the program: these values were
// worked out by hand from chapter 7.

// wordFont has one letter for each width of the texts of chapter 5: at eight, two
// or three words a make a full line, and an x only ends the galley.
func wordFont() impl.Font {
	return impl.Font{Letters: "axy", Widths: []int{2, 6, 8}, Codes: []int{1, 2, 4}}
}

var eight = impl.Measure{Width: 8, Thin: 1, Thick: 4}

func TestWordWidthsByHand(t *testing.T) {
	for _, c := range []struct {
		text   string
		widths []int
	}{
		{"ab c", []int{9, 6}}, {" ab c", []int{9, 6}}, {"  ab   c  ", []int{9, 6}}, {"a", []int{4}}, {"abc", []int{15}}, {"a a", []int{4, 4}}, {"cab ", []int{15}},
		{words("b", 40), repeated(5, 40)}, {strings.Repeat(" b  ", 40), repeated(5, 40)}, {strings.Repeat("a", 500), []int{2000}}, {strings.Repeat("b", 400) + " a", []int{2000, 4}},
	} {
		if got, ok := impl.WordWidths(abcFont(), c.text); !ok || !slices.Equal(got, c.widths) {
			t.Errorf("WordWidths of %q = %v, %v", c.text, got, ok)
		}
	}
	for _, text := range []string{
		"", " ", "    ", words("b", 41), strings.Repeat("a", 499) + "b", "a " + strings.Repeat("a", 501), "a\tb", "a\nb", "\n", "a b\n", "abd", "A", "a!", "a\u00a0b", "\u00e1", "a\xff", "\x00", "a\x00b",
	} {
		if got, ok := impl.WordWidths(abcFont(), text); ok || len(got) != 0 {
			t.Errorf("WordWidths of %q = %v, %v", text, got, ok)
		}
	}
	f := abcFont()
	f.Widths = []int{4, 5, 61}
	if got, ok := impl.WordWidths(f, "a"); ok || len(got) != 0 {
		t.Errorf("what is no font has words: %v", got)
	}
}

func TestGalleysThatAreSetByHand(t *testing.T) {
	for _, c := range []struct {
		m      impl.Measure
		text   string
		galley []string
	}{
		{eight, "a a a a a a", []string{"a a a", "a a a"}}, {eight, "  a a  a a ", []string{"a a a", "a"}}, {eight, "a", []string{"a"}}, {eight, " x ", []string{"x"}}, {eight, "y", []string{"y"}},
		{eight, "a a a", []string{"a a a"}}, {eight, "a a", []string{"a a"}}, {eight, "y x", []string{"y", "x"}}, {eight, "aa a y a", []string{"aa a", "y", "a"}}, {eight, "a aa y", []string{"a aa", "y"}},
		{eight, "a a a a a x", []string{"a a a", "a a", "x"}},
		{measure(2000, 1, 1), words("a", 40), []string{words("a", 40)}}, {measure(2000, 100, 100), strings.Repeat("y", 250) + " a", []string{strings.Repeat("y", 250), "a"}},
	} {
		if got, ok := impl.SetGalley(wordFont(), c.m, c.text); !ok || !slices.Equal(got, c.galley) || !impl.GalleyOk(wordFont(), c.m, got) {
			t.Errorf("SetGalley(%+v, %q) = %q, %v", c.m, c.text, got, ok)
		}
	}
	for _, c := range []struct {
		m    impl.Measure
		text string
	}{
		// There is one breaking of the third text, but the greedy one comes to no end.
		{eight, "x a"}, {eight, "aa aaa"}, {eight, "a a a a x"}, {eight, "ya"}, {measure(1, 1, 4), "a"}, {measure(9, 1, 4), "y a"},
		{eight, ""}, {eight, "   "}, {eight, "a b"}, {eight, "a\ta"}, {measure(2000, 1, 1), words("a", 41)}, {measure(2000, 1, 1), strings.Repeat("y", 251)},
		{measure(0, 1, 4), "a"}, {measure(2001, 1, 4), "a"}, {measure(8, 0, 4), "a"}, {measure(8, 5, 4), "a"}, {measure(8, 1, 101), "a"}, {measure(math.MaxInt, 1, 4), "a"}, {measure(8, math.MinInt, 4), "a"}, {measure(8, 1, math.MaxInt), "a"},
	} {
		if got, ok := impl.SetGalley(wordFont(), c.m, c.text); ok || len(got) != 0 {
			t.Errorf("SetGalley(%+v, %q) = %q, %v", c.m, c.text, got, ok)
		}
	}
	if got, ok := impl.SetGalley(impl.Font{}, eight, "a"); ok || len(got) != 0 {
		t.Errorf("no font: %q", got)
	}
}

func TestWhatIsAGalleyByHand(t *testing.T) {
	for _, galley := range [][]string{
		{"a"}, {"x"}, {"y"}, {"a a"}, {"a a", "a a", "a a"}, {"a a", "a a a", "a"}, {"a a a", "a a", "a"}, {"a a a", "a a a"}, {"a a", "a a", "x"}, {"a a", "a"}, {"y", "y", "y"}, {"aa a", "aaa"}, {"aaaa"},
		append(slices.Repeat([]string{"a a a"}, 13), "a"), slices.Repeat([]string{"a a"}, 20), slices.Repeat([]string{"y"}, 40),
	} {
		if !impl.GalleyOk(wordFont(), eight, galley) {
			t.Errorf("%q is a galley", galley)
		}
	}
	for _, galley := range [][]string{
		nil, {}, {""}, {" "}, {"", ""}, {"", "a"}, {"a a", ""}, {"a a", "", "a"}, {"a a", " ", "a"}, {"a  a"}, {"a  a", "a"}, {" a"}, {"a "}, {"a a ", "a"}, {"a a", " a"}, {" a a", "a"},
		{"a", "a"}, {"x", "a"}, {"a a a a"}, {"a x"}, {"ya"}, {"aa aa", "aaa", "y"}, {"a\ta"}, {"a a\n"}, {"b"}, {"a a", "b"}, {"a\u00a0a", "a"}, {"a\xffa"}, {"a a\x00", "a"},
		slices.Repeat([]string{"y"}, 41), append(slices.Repeat([]string{"a a"}, 20), "a"), append(slices.Repeat([]string{"a a a"}, 13), "a a"),
	} {
		if impl.GalleyOk(wordFont(), eight, galley) {
			t.Errorf("%q is no galley", galley)
		}
	}
	for _, m := range []impl.Measure{measure(9, 1, 4), measure(7, 1, 4), measure(8, 1, 2), measure(8, 4, 1), measure(math.MinInt, 1, 4), {}} {
		if impl.GalleyOk(wordFont(), m, []string{"a a", "a"}) != (m == measure(7, 1, 4)) {
			t.Errorf("a galley of %+v", m)
		}
	}
	if impl.GalleyOk(abcFont(), eight, []string{"a a", "a"}) || impl.GalleyOk(impl.Font{Letters: "a"}, eight, []string{"a"}) {
		t.Error("a galley of another font, or of none")
	}
}

func TestTextsOfGalleysByHand(t *testing.T) {
	for want, galley := range map[string][]string{"": nil, "a": {"a"}, " ": {"", ""}, "a b c": {"a b", "c"}, "a  b ": {"a ", "b", ""}, "\xff \n": {"\xff", "\n"}, "  ": {"  "}} {
		if got := impl.GalleyText(galley); got != want {
			t.Errorf("GalleyText(%q) = %q", galley, got)
		}
	}
}

type correction struct {
	galley []string
	index  int
	text   string
	want   []string
}

func TestReplacedWordsByHand(t *testing.T) {
	pairs := []string{"a a", "a a", "a a"}
	many := append(slices.Repeat([]string{"a a a"}, 13), "a")
	for _, c := range []correction{
		// By itself: lines behind are set anew, those before are not.
		{pairs, 0, "a", []string{"a a a", "a a a"}}, {pairs, 1, " a ", []string{"a a a", "a a a"}}, {pairs, 2, "a", []string{"a a", "a a a", "a"}}, {pairs, 3, "a", []string{"a a", "a a a", "a"}}, {pairs, 4, "a", pairs}, {pairs, 5, "a", pairs},
		// By none.
		{pairs, 0, "", []string{"a a a", "a a"}}, {pairs, 3, "   ", []string{"a a", "a a a"}}, {pairs, 5, "", []string{"a a", "a a", "a"}}, {pairs, 4, " ", []string{"a a", "a a", "a"}},
		{[]string{"a a", "a a", "x"}, 4, "", []string{"a a", "a a"}}, {[]string{"y", "a"}, 1, "  ", []string{"y"}}, {[]string{"y", "y", "y"}, 2, "", []string{"y", "y"}}, {[]string{"y", "y", "y"}, 1, "", []string{"y", "y"}}, {[]string{"y", "a a"}, 0, "", []string{"a a"}},
		// By several.
		{pairs, 5, "a a", []string{"a a", "a a", "a a a"}}, {pairs, 5, " a  a a ", []string{"a a", "a a", "a a a", "a"}}, {pairs, 0, "y y", []string{"y", "y", "a a a", "a a"}}, {pairs, 2, "x", nil}, {pairs, 3, "x", nil}, {pairs, 5, "y", nil}, {pairs, 4, "y", []string{"a a", "a a", "y", "a"}},
		{pairs, 5, "a x", []string{"a a", "a a", "a a", "x"}}, {pairs, 5, "aa", []string{"a a", "a a", "a aa"}}, {pairs, 5, "aaa", nil}, {pairs, 5, "aaaa", nil}, {pairs, 4, "a y", nil}, {pairs, 5, "a y", []string{"a a", "a a", "a a", "y"}},
		// The only word.
		{[]string{"a"}, 0, "y", []string{"y"}}, {[]string{"a"}, 0, "a", []string{"a"}}, {[]string{"a"}, 0, "a a a a", []string{"a a a", "a"}}, {[]string{"a"}, 0, "", nil}, {[]string{"a"}, 0, "   ", nil}, {[]string{"a"}, 1, "a", nil}, {[]string{"a"}, 0, words("y", 40), slices.Repeat([]string{"y"}, 40)}, {[]string{"a"}, 0, words("y", 41), nil}, {[]string{"a"}, 0, words("a", 1000), nil},
		// The greedy breaking of all words comes to no end, that of the last ones does.
		{[]string{"a a", "a a", "x"}, 0, "a", nil}, {[]string{"a a", "a a", "x"}, 1, "", []string{"a a a", "x"}}, {[]string{"a a", "a a", "x"}, 2, "a", []string{"a a", "a a", "x"}}, {[]string{"a a", "a a", "x"}, 4, "x", []string{"a a", "a a", "x"}}, {[]string{"a a", "a a", "x"}, 4, "x a", nil},
		// The words that are set anew make a galley, but with those before them there are too many.
		{many, 39, "a", many}, {many, 39, "a a", nil}, {many, 39, "", many[:13]}, {many, 0, "a a", nil}, {many, 38, "a a", nil}, {many, 38, "", many[:13]}, {many, 36, "a", many}, {many, 0, "y", append([]string{"y"}, many[:13]...)}, {many, 0, "y y", nil}, {many, 1, "", many[:13]},
		// What is put in is no wording.
		{pairs, 5, "b", nil}, {pairs, 5, "a\ta", nil}, {pairs, 5, "\n", nil}, {pairs, 5, "a\u00a0", nil}, {pairs, 5, "\xff", nil}, {pairs, 5, strings.Repeat("y", 251), nil},
		// There is no such word, or no galley.
		{pairs, 6, "a", nil}, {pairs, 7, "a", nil}, {pairs, 6, "", nil}, {pairs, -1, "a", nil}, {pairs, -1, "", nil}, {pairs, math.MinInt, "a", nil}, {pairs, math.MaxInt, "a", nil}, {pairs, math.MaxInt, "", nil}, {pairs, 1 << 32, "a", nil}, {pairs, -6, "a", nil},
		{nil, 0, "a", nil}, {[]string{}, 0, "a a", nil}, {nil, 0, "", nil}, {[]string{""}, 0, "a", nil}, {[]string{"a", "a"}, 0, "", nil}, {[]string{"a", "a"}, 1, "", nil}, {[]string{"a  a"}, 0, "a", nil}, {[]string{"a a", "a "}, 0, "a", nil}, {[]string{"a a", "", "a"}, 2, "a", nil}, {[]string{"a a", "b"}, 2, "a", nil}, {[]string{"a a a a"}, 0, "", nil},
	} {
		got, ok := impl.ReplaceWord(wordFont(), eight, c.galley, c.index, c.text)
		if ok != (c.want != nil) || !slices.Equal(got, c.want) {
			t.Errorf("ReplaceWord(%q, %d, %q) = %q, %v; want %q", c.galley, c.index, c.text, got, ok, c.want)
		}
	}
	for _, m := range []impl.Measure{measure(0, 1, 4), measure(8, 0, 4), measure(8, 4, 1), measure(8, 1, 101), measure(9, 1, 4), {}} {
		if got, ok := impl.ReplaceWord(wordFont(), m, pairs, 5, "a"); ok || len(got) != 0 {
			t.Errorf("ReplaceWord at %+v = %q", m, got)
		}
	}
	if got, ok := impl.ReplaceWord(impl.Font{}, eight, pairs, 5, "a"); ok || len(got) != 0 {
		t.Errorf("ReplaceWord without a font = %q", got)
	}
}

func TestResetsByHand(t *testing.T) {
	for _, c := range []struct {
		before, after  []string
		first, out, in int
		marks          string
	}{
		{nil, nil, 0, 0, 0, ""}, {[]string{"x"}, nil, 0, 1, 0, "-"}, {nil, []string{"x", "y"}, 0, 0, 2, "++"}, {[]string{"x"}, []string{"x"}, 1, 0, 0, "="}, {[]string{"x"}, []string{"y"}, 0, 1, 1, "-+"}, {[]string{""}, []string{""}, 1, 0, 0, "="},
		{[]string{"x", "y", "z"}, []string{"x", "y", "z"}, 3, 0, 0, "==="}, {[]string{"x", "y", "z"}, []string{"x", "w", "v", "z"}, 1, 1, 2, "=-++="}, {[]string{"x", "y", "z"}, []string{"y", "z"}, 0, 1, 0, "-=="}, {[]string{"y", "z"}, []string{"x", "y", "z"}, 0, 0, 1, "+=="},
		{[]string{"x", "y"}, []string{"x", "y", "z"}, 2, 0, 1, "==+"}, {[]string{"x", "y", "z"}, []string{"x", "y"}, 2, 1, 0, "==-"}, {[]string{"x", "y", "z"}, []string{"z", "y", "x"}, 0, 3, 3, "---+++"}, {[]string{"x", "y"}, []string{"z", "y"}, 0, 1, 1, "-+="},
		// The beginning and the end would overlap: the beginning goes first.
		{[]string{"x", "x"}, []string{"x"}, 1, 1, 0, "=-"}, {[]string{"x"}, []string{"x", "x"}, 1, 0, 1, "=+"}, {[]string{"x", "x", "x"}, []string{"x", "x"}, 2, 1, 0, "==-"}, {[]string{"x", "x"}, []string{"x", "x", "x", "x"}, 2, 0, 2, "==++"}, {[]string{"x", "y", "x"}, []string{"x"}, 1, 2, 0, "=--"}, {[]string{"x"}, []string{"x", "y", "x"}, 1, 0, 2, "=++"},
		{[]string{"x", "y", "x"}, []string{"x", "x"}, 1, 1, 0, "=-="}, {[]string{"x", "y", "x", "y"}, []string{"x", "y"}, 2, 2, 0, "==--"}, {[]string{"x", "y"}, []string{"x", "y", "x", "y"}, 2, 0, 2, "==++"}, {[]string{"x", "x", "y"}, []string{"x", "y"}, 1, 1, 0, "=-="}, {[]string{"x", "y", "y"}, []string{"x", "y"}, 2, 1, 0, "==-"},
		{[]string{"a a", "a"}, []string{"a  a", "a"}, 0, 1, 1, "-+="},
	} {
		if first, out, in := impl.ResetOf(c.before, c.after); first != c.first || out != c.out || in != c.in {
			t.Errorf("ResetOf(%q, %q) = %d, %d, %d", c.before, c.after, first, out, in)
		}
		if marks := impl.MarksOf(c.before, c.after); marks != c.marks {
			t.Errorf("MarksOf(%q, %q) = %q", c.before, c.after, marks)
		}
	}
}

func TestAppliedResetsByHand(t *testing.T) {
	before := []string{"x", "y", "z"}
	for _, c := range []struct {
		before     []string
		first, out int
		lines      []string
		want       []string
	}{
		{before, 1, 1, []string{"v", "w"}, []string{"x", "v", "w", "z"}}, {before, 0, 0, []string{"v"}, []string{"v", "x", "y", "z"}}, {before, 3, 0, []string{"v"}, []string{"x", "y", "z", "v"}}, {before, 2, 0, []string{"v"}, []string{"x", "y", "v", "z"}},
		{before, 0, 3, []string{"v"}, []string{"v"}}, {before, 0, 3, nil, []string{}}, {before, 1, 2, nil, []string{"x"}}, {before, 0, 0, nil, before}, {before, 3, 0, nil, before}, {before, 0, 1, []string{}, []string{"y", "z"}},
		{nil, 0, 0, nil, []string{}}, {nil, 0, 0, []string{"", "\xff "}, []string{"", "\xff "}}, {[]string{"", ""}, 1, 1, []string{"v"}, []string{"", "v"}},
		{before, 0, 4, nil, nil}, {before, 3, 1, nil, nil}, {before, 4, 0, nil, nil}, {before, 2, 2, nil, nil}, {before, -1, 1, nil, nil}, {before, 1, -1, nil, nil}, {before, 4, -1, nil, nil}, {before, -1, 0, nil, nil}, {before, 0, -1, []string{"v"}, nil}, {nil, 0, 1, nil, nil}, {nil, 1, 0, nil, nil}, {nil, 1, -1, nil, nil},
		{before, math.MaxInt, 0, nil, nil}, {before, math.MaxInt, math.MaxInt, nil, nil}, {before, 1, math.MaxInt, nil, nil}, {before, 3, math.MaxInt, nil, nil}, {before, math.MinInt, 0, nil, nil}, {before, 0, math.MinInt, nil, nil}, {before, math.MinInt, math.MaxInt, nil, nil}, {before, math.MinInt, math.MinInt, nil, nil}, {before, math.MaxInt, math.MinInt, nil, nil},
	} {
		got, ok := impl.ApplyReset(c.before, c.first, c.out, c.lines)
		if ok != (c.want != nil) || !slices.Equal(got, c.want) {
			t.Errorf("ApplyReset(%q, %d, %d, %q) = %q, %v", c.before, c.first, c.out, c.lines, got, ok)
		}
	}
}

func TestGalleysThatAreCastByHand(t *testing.T) {
	at := measure(12, 2, 4)
	galley := []string{"c a", "a a", "a b"} // 6 + 2 + 4, 4 + 4 + 4 and 4 + 2 + 5 of 12
	clean := twoOfEach(1, at)
	// The worn c comes to the channel of a, between the two, and out of it for the second a.
	worn := with(clean, [][]impl.Matrix{{theA, theA}, {theB, theB}, {wornC, theC}}, nil)
	after := with(clean, [][]impl.Matrix{{theA, wornC, theA}, {theB, theB}, {theC}}, nil)
	strays := with(clean, [][]impl.Matrix{{theA, theA}, {theC, theB}, {theC}}, nil)
	for _, c := range []struct {
		x, after impl.Machine
		galley   []string
		faults   []int
	}{
		{clean, clean, galley, nil}, {clean, clean, []string{"b"}, nil}, {worn, after, galley, []int{1}},
		{with(clean, clean.Magazine, nil, theC, theB), with(clean, [][]impl.Matrix{{theA, theA}, {theB, theB, theB}, {theC, theC, theC}}, nil), []string{"a b"}, nil},
		{strays, with(strays, [][]impl.Matrix{{theA, theA}, {theB}, {theC, theC}}, nil), []string{"a b"}, []int{0}},
		{strays, with(strays, [][]impl.Matrix{{theA, theA}, {theB}, {theC, theC}}, nil), []string{"c a", "b"}, []int{1}},
		{strays, with(strays, [][]impl.Matrix{{theA, theA}, {theB}, {theC, theC}}, nil), []string{"c a", "c a", "b"}, []int{2}},
	} {
		got, faults, ok := impl.CastGalley(c.x, c.galley)
		if !ok || !slices.Equal(faults, c.faults) || !sameMachine(got, c.after) {
			t.Errorf("CastGalley(%+v, %q) = %+v, %v, %v", c.x, c.galley, got, faults, ok)
		}
	}
}

func TestGalleysThatAreNotCastByHand(t *testing.T) {
	at := measure(12, 2, 4)
	galley := []string{"c a", "a a", "a b"}
	x := twoOfEach(1, at)
	wide := with(x, [][]impl.Matrix{{theC, theA, theA}, {theB}, {theC}}, nil) // 6 + 2 + 6
	other, none := x, x
	other.Measure, none.Spare = measure(13, 2, 4), 61
	for _, c := range []struct {
		x      impl.Machine
		galley []string
	}{
		{twoOfEach(0, at), galley}, {wide, galley}, {other, galley}, {none, galley}, {impl.Machine{}, galley}, {with(x, x.Magazine[:2], nil), galley},
		{with(x, x.Magazine, []impl.Matrix{theB}), galley}, {with(x, x.Magazine, []impl.Matrix{theB}), []string{"b"}}, {with(x, x.Magazine, []impl.Matrix{theBand}), []string{"b"}},
		{x, nil}, {x, []string{}}, {x, []string{""}}, {x, []string{"c a", ""}}, {x, []string{"a", "b"}}, {x, []string{"c  a"}}, {x, []string{"c a "}}, {x, []string{"c a", "d"}}, {x, []string{"aaa"}}, {x, []string{"c a\n"}},
	} {
		got, faults, ok := impl.CastGalley(c.x, c.galley)
		if ok || len(faults) != 0 || !sameMachine(got, impl.Machine{}) {
			t.Errorf("CastGalley(%+v, %q) = %+v, %v, %v", c.x, c.galley, got, faults, ok)
		}
	}
	begun := with(x, x.Magazine, []impl.Matrix{theB})
	if _, _, ok := impl.SetLines(begun, []string{"b"}); !ok {
		t.Error("a line that is there already is all that keeps it from being cast")
	}
}
