package tests

import (
	"math"
	"slices"
	"strings"
	"testing"

	"loop.example/g03230/impl"
)

// The reference could share a misreading with the program: these values were
// worked out by hand from chapter 6. The letters of the font are a, b and c, 4, 5
// and 6 wide; a c that has lost the tooth 2 falls at the channel of a.

var (
	theA, theB, theC = of(0, 3), of(1, 5), of(2, 6)
	wornC            = of(2, 2)
	theBand          = of(-1, 0)
)

func twoOfEach(spare int, m impl.Measure) impl.Machine {
	return impl.Machine{Font: abcFont(), Magazine: [][]impl.Matrix{{theA, theA}, {theB, theB}, {theC, theC}}, Spare: spare, Measure: m}
}

// with returns the machine with another magazine, line and list of the waiting.
func with(x impl.Machine, m [][]impl.Matrix, line []impl.Matrix, waiting ...impl.Matrix) impl.Machine {
	x.Magazine, x.Line, x.Waiting = m, line, waiting
	return x
}

func TestNewMachinesByHand(t *testing.T) {
	at := measure(10, 2, 5)
	x, ok := impl.NewMachine(abcFont(), 2, 3, at)
	if !ok || !sameMachine(x, twoOfEach(3, at)) {
		t.Errorf("a new machine is %+v, %v", x, ok)
	}
	for _, c := range []struct {
		f           impl.Font
		each, spare int
		m           impl.Measure
		want        bool
	}{
		{abcFont(), 0, 0, at, true}, {abcFont(), 20, 60, at, true}, {abcFont(), 0, 0, measure(1, 1, 1), true},
		{abcFont(), 21, 0, at, false}, {abcFont(), -1, 0, at, false}, {abcFont(), 0, 61, at, false}, {abcFont(), 0, -1, at, false},
		{abcFont(), 0, 0, measure(0, 2, 5), false}, {abcFont(), 0, 0, measure(10, 5, 2), false}, {impl.Font{}, 0, 0, at, false},
		{abcFont(), math.MaxInt, 0, at, false}, {abcFont(), 0, math.MinInt, at, false}, {abcFont(), 0, 0, measure(math.MinInt, 2, 5), false},
	} {
		x, ok := impl.NewMachine(c.f, c.each, c.spare, c.m)
		if ok != c.want || impl.MachineOk(x) != c.want || !ok && !sameMachine(x, impl.Machine{}) {
			t.Errorf("NewMachine(%v, %d, %d, %v) = %+v, %v", c.f, c.each, c.spare, c.m, x, ok)
		}
	}
}

func TestLinesOfMachinesByHand(t *testing.T) {
	x := twoOfEach(3, measure(12, 2, 5))
	if !impl.MachineOk(x) || len(impl.ItemsOf(x)) != 0 || impl.LineText(x) != "" {
		t.Error("a machine with an empty line")
	}
	x.Line = []impl.Matrix{wornC, theBand, theA}
	if !impl.MachineOk(x) || !slices.Equal(impl.ItemsOf(x), []int{6, 0, 4}) || impl.LineText(x) != "c a" {
		t.Errorf("the line of %+v is %v, %q", x, impl.ItemsOf(x), impl.LineText(x))
	}
	x.Waiting = []impl.Matrix{theB, wornC}
	if counts := impl.CountAll(x); !slices.Equal(counts, []int{3, 3, 4}) {
		t.Errorf("%+v has %v", x, counts)
	}
	for _, bad := range []impl.Machine{
		with(x, x.Magazine, []impl.Matrix{of(-1, 1)}), with(x, x.Magazine, []impl.Matrix{of(-2, 0)}), with(x, x.Magazine, []impl.Matrix{of(0, 4)}), with(x, x.Magazine, []impl.Matrix{of(3, 0)}),
		with(x, x.Magazine, nil, theBand), with(x, x.Magazine, nil, of(3, 0)), with(x, x.Magazine, nil, of(1, 2)),
		with(x, x.Magazine[1:], nil), with(x, nil, nil), with(x, x.Magazine, []impl.Matrix{theC, theBand, theB}),
	} {
		if impl.MachineOk(bad) || len(impl.ItemsOf(bad)) != 0 || impl.LineText(bad) != "" || len(impl.CountAll(bad)) != 0 {
			t.Errorf("%+v counts as a machine", bad)
		}
	}
}

func TestLimitsOfMachinesByHand(t *testing.T) {
	wide := twoOfEach(60, measure(2000, 1, 1))
	bands := slices.Repeat([]impl.Matrix{theBand}, 121)
	many := slices.Repeat([]impl.Matrix{theA}, 241)
	for _, c := range []struct {
		x    impl.Machine
		want bool
	}{
		{wide, true}, {with(wide, wide.Magazine, bands[:120]), true}, {with(wide, wide.Magazine, bands), false},
		{with(wide, wide.Magazine, nil, many[:240]...), true}, {with(wide, wide.Magazine, nil, many...), false},
		{with(wide, [][]impl.Matrix{many[:20], nil, nil}, nil), true}, {with(wide, [][]impl.Matrix{many[:21], nil, nil}, nil), false},
		{twoOfEach(61, wide.Measure), false}, {twoOfEach(-1, wide.Measure), false}, {twoOfEach(0, wide.Measure), true}, {twoOfEach(math.MinInt, wide.Measure), false},
	} {
		if got := impl.MachineOk(c.x); got != c.want {
			t.Errorf("MachineOk(%+v) = %v", c.x, got)
		}
	}
	x, n := impl.KeyText(with(wide, wide.Magazine, bands[:119]), " a")
	if n != 1 || !sameMachine(x, with(twoOfEach(59, wide.Measure), wide.Magazine, bands[:120])) {
		t.Errorf("%d items come to a line of 119: %+v", n, x)
	}
}

func TestKeyedTextsByHand(t *testing.T) {
	x := twoOfEach(1, measure(17, 2, 5))
	for _, c := range []struct {
		text  string
		n     int
		line  string
		spare int
		left  []int
	}{
		{"", 0, "", 1, []int{2, 2, 2}},
		{"ab a", 4, "ab a", 0, []int{0, 1, 2}}, // 4 + 5 + 2 + 4
		{"aaa", 2, "aa", 1, []int{0, 2, 2}},    // an empty channel
		{"a  ", 2, "a ", 0, []int{1, 2, 2}},    // no spare band
		{" a a", 2, " a", 0, []int{1, 2, 2}},   // no spare band
		{"abz", 2, "ab", 1, []int{1, 1, 2}},    // no letter
		{"ab\nc", 2, "ab", 1, []int{1, 1, 2}},
		{"b\xe1", 1, "b", 1, []int{2, 1, 2}},
		{"\u00e1", 0, "", 1, []int{2, 2, 2}},
		{"\x00", 0, "", 1, []int{2, 2, 2}},
		{"A", 0, "", 1, []int{2, 2, 2}},
		{"cca", 3, "cca", 1, []int{1, 2, 0}},   // 6 + 6 + 4
		{"ccab", 3, "cca", 1, []int{1, 2, 0}},  // 21 are too wide
		{"ccb", 3, "ccb", 1, []int{2, 1, 0}},   // 6 + 6 + 5 are just as wide
		{"ccb ", 3, "ccb", 1, []int{2, 1, 0}},  // the band stays a spare one
		{"cc bx", 3, "cc ", 0, []int{2, 2, 0}}, // 6 + 6 + 2 + 5 are too wide
	} {
		got, n := impl.KeyText(x, c.text)
		if n != c.n || impl.LineText(got) != c.line || got.Spare != c.spare || !slices.Equal(impl.KindCounts(got.Font, got.Magazine), c.left) || len(got.Waiting) != 0 {
			t.Errorf("KeyText of %q = %+v, %d", c.text, got, n)
		}
	}
}

func TestStraysAreKeyedByHand(t *testing.T) {
	m := [][]impl.Matrix{{wornC, theA, of(1, 1)}, nil, {theC}}
	x := with(twoOfEach(0, measure(20, 2, 5)), m, nil, theB)
	got, n := impl.KeyText(x, "aca")
	if n != 3 || !sameMachine(got, with(x, [][]impl.Matrix{{of(1, 1)}, nil, nil}, []impl.Matrix{wornC, theC, theA}, theB)) || impl.LineText(got) != "cca" {
		t.Errorf("%+v, %d", got, n)
	}
	// A stray that is too wide stays the first one, though an a would have room.
	x.Measure.Width = 5
	got, n = impl.KeyText(x, "a")
	if n != 0 || !sameMachine(got, x) {
		t.Errorf("%+v, %d", got, n)
	}
	full := slices.Concat([]impl.Matrix{wornC, theB}, slices.Repeat([]impl.Matrix{theA}, 17), []impl.Matrix{of(0, 1)})
	x = with(x, [][]impl.Matrix{full, nil, nil}, nil)
	if got, n = impl.KeyText(x, "aa"); n != 0 || !sameMachine(got, x) {
		t.Errorf("%+v, %d", got, n)
	}
	// One that is narrower has room where the letter of the key has none.
	x.Magazine = [][]impl.Matrix{nil, nil, {of(0, 0), theC}}
	if got, n = impl.KeyText(x, "cc"); n != 1 || !sameMachine(got, with(x, [][]impl.Matrix{nil, nil, {theC}}, []impl.Matrix{of(0, 0)})) {
		t.Errorf("%+v, %d", got, n)
	}
}

func TestCastLinesByHand(t *testing.T) {
	abc := []impl.Matrix{theA, theBand, theB, theBand, wornC}
	for _, c := range []struct {
		m              impl.Measure
		line           []impl.Matrix
		text           string
		places         []int
		isFull, ragged bool
	}{
		{measure(23, 2, 5), abc, "a b c", []int{0, 4, 8, 13, 17}, true, true}, // 15 + 2*4
		{measure(24, 2, 5), abc, "a b c", []int{0, 4, 9, 14, 18}, true, true}, // 15 + 5 + 4
		{measure(26, 2, 5), abc, "a b c", []int{0, 4, 10, 15, 20}, true, true},
		{measure(27, 2, 5), abc, "a b c", []int{0, 4, 9, 14, 19}, false, true},
		{measure(19, 2, 2), abc, "a b c", []int{0, 4, 6, 11, 13}, true, true},
		{measure(9, 2, 5), []impl.Matrix{theA, theB}, "ab", []int{0, 4}, true, true},
		{measure(10, 2, 5), []impl.Matrix{theA, theB}, "ab", []int{0, 4}, false, true},
		{measure(2, 2, 5), []impl.Matrix{theBand}, " ", []int{0}, true, true},
		{measure(9, 2, 5), nil, "", nil, false, false},
		{measure(1, 1, 1), []impl.Matrix{}, "", nil, false, false},
	} {
		x := with(twoOfEach(1, c.m), [][]impl.Matrix{nil, {theB}, nil}, c.line, theC, theA)
		want := with(x, x.Magazine, nil, theC, theA)
		for _, y := range c.line {
			if y == theBand {
				want.Spare++
			} else {
				want.Waiting = append(want.Waiting, y)
			}
		}
		for _, ragged := range []bool{false, true} {
			got, text, places, ok := impl.CastLine(x, ragged)
			if ragged && c.ragged || c.isFull {
				if !ok || text != c.text || !slices.Equal(places, c.places) || !sameMachine(got, want) {
					t.Errorf("CastLine(%+v, %v) = %+v, %q, %v, %v", x, ragged, got, text, places, ok)
				}
			} else if ok || text != "" || len(places) != 0 || !sameMachine(got, impl.Machine{}) {
				t.Errorf("CastLine(%+v, %v) = %+v, %q, %v, %v", x, ragged, got, text, places, ok)
			}
		}
	}
}

func TestCastsAtTheLimitsByHand(t *testing.T) {
	many := slices.Repeat([]impl.Matrix{theC}, 240)
	for _, c := range []struct {
		spare, waiting int
		line           []impl.Matrix
		want           bool
	}{
		{0, 239, []impl.Matrix{theA}, true}, {0, 240, []impl.Matrix{theA}, false}, {0, 239, []impl.Matrix{theA, theB}, false}, {0, 238, []impl.Matrix{theA, theB}, true},
		{0, 240, []impl.Matrix{theBand}, true}, {59, 240, []impl.Matrix{theBand}, true}, {60, 0, []impl.Matrix{theBand}, false}, {59, 0, []impl.Matrix{theBand, theBand}, false},
		{58, 0, []impl.Matrix{theBand, theA, theBand}, true}, {60, 0, []impl.Matrix{theA}, true}, {60, 240, []impl.Matrix{theA}, false},
	} {
		x := with(twoOfEach(c.spare, measure(30, 2, 5)), nil, c.line, many[:c.waiting]...)
		x.Magazine = make([][]impl.Matrix, 3)
		got, text, places, ok := impl.CastLine(x, true)
		if ok != c.want || impl.MachineOk(got) != c.want || len(text) != len(places) || ok != (len(text) == len(c.line)) || !ok && !sameMachine(got, impl.Machine{}) {
			t.Errorf("CastLine(%+v) = %+v, %q, %v, %v", x, got, text, places, ok)
		}
	}
}

func TestDroppedMatricesByHand(t *testing.T) {
	as := slices.Repeat([]impl.Matrix{theA}, 20)
	x := with(twoOfEach(0, measure(30, 2, 5)), [][]impl.Matrix{as[:18], nil, nil}, []impl.Matrix{theC}, theA, wornC, theB)
	two := with(x, [][]impl.Matrix{append(slices.Clone(as[:19]), wornC), nil, nil}, x.Line, theB)
	all := with(two, [][]impl.Matrix{two.Magazine[0], {theB}, nil}, x.Line)
	tight := with(x, [][]impl.Matrix{as[:19], nil, nil}, x.Line, x.Waiting...)
	stuck := with(x, [][]impl.Matrix{as, nil, nil}, x.Line, wornC, theB)
	for _, c := range []struct {
		x       impl.Machine
		most, n int
		want    impl.Machine
	}{
		{x, 0, 0, x}, {x, 2, 2, two}, {x, 3, 3, all}, {x, 4, 3, all}, {x, 240, 3, all}, {x, math.MaxInt, 3, all},
		{all, 0, 0, all}, {all, 1, 0, all}, {all, math.MaxInt, 0, all},
		{tight, 1, 1, stuck}, {tight, 2, 1, stuck}, {tight, 3, 1, stuck}, {stuck, 3, 0, stuck}, {stuck, 0, 0, stuck},
		{x, -1, -1, impl.Machine{}}, {x, math.MinInt, -1, impl.Machine{}}, {all, -1, -1, impl.Machine{}}, {impl.Machine{}, 0, -1, impl.Machine{}}, {impl.Machine{}, 1, -1, impl.Machine{}},
	} {
		if got, n := impl.DropWaiting(c.x, c.most); n != c.n || !sameMachine(got, c.want) {
			t.Errorf("DropWaiting(%+v, %d) = %+v, %d; want %+v, %d", c.x, c.most, got, n, c.want, c.n)
		}
	}
}

func TestWornMachinesByHand(t *testing.T) {
	x := with(twoOfEach(3, measure(12, 2, 5)), [][]impl.Matrix{{theA, theC}, {theB}, nil}, []impl.Matrix{theA, theBand}, theB)
	got, ok := impl.WearMachine(x, 0, 1, 2)
	if !ok || !sameMachine(got, with(x, [][]impl.Matrix{{theA, wornC}, {theB}, nil}, x.Line, theB)) {
		t.Errorf("%+v, %v", got, ok)
	}
	for _, c := range [][3]int{{0, 1, 0}, {0, 1, 7}, {0, 1, -1}, {0, 2, 1}, {0, -1, 1}, {2, 0, 1}, {3, 0, 1}, {-1, 0, 1}, {math.MinInt, 0, 1}, {0, math.MaxInt, 1}, {0, 0, math.MaxInt}, {0, 0, 64}, {0, 0, 1 << 32}} {
		if got, ok := impl.WearMachine(x, c[0], c[1], c[2]); ok || !sameMachine(got, impl.Machine{}) {
			t.Errorf("WearMachine of %v = %+v, %v", c, got, ok)
		}
	}
	x.Spare = 61
	if got, ok := impl.WearMachine(x, 0, 1, 2); ok || !sameMachine(got, impl.Machine{}) {
		t.Errorf("what is no machine is worn: %+v", got)
	}
}

func TestSetLinesByHand(t *testing.T) {
	x := twoOfEach(3, measure(30, 2, 5))
	if got, texts, ok := impl.SetLines(x, nil); !ok || len(texts) != 0 || !sameMachine(got, x) {
		t.Errorf("no lines: %+v, %q, %v", got, texts, ok)
	}
	// All come home between two lines, so that both can have all of them.
	lines := []string{"ab ca b", "ccbbaa", "c", " "}
	if got, texts, ok := impl.SetLines(x, lines); !ok || !slices.Equal(texts, lines) || !sameMachine(got, x) {
		t.Errorf("%q: %+v, %q, %v", lines, got, texts, ok)
	}
	for _, lines := range [][]string{{""}, {"a", ""}, {"aaa"}, {"a", "ax"}, {"    "}, {"a", "ccbba a"}, {strings.Repeat("cba", 2) + "c"}, {"\xff"}} {
		if got, texts, ok := impl.SetLines(x, lines); ok || len(texts) != 0 || !sameMachine(got, impl.Machine{}) {
			t.Errorf("%q: %+v, %q, %v", lines, got, texts, ok)
		}
	}
	// A line that is there already is cast with the first text.
	begun := with(x, [][]impl.Matrix{{theA}, {theB, theB}, {theC, theC}}, []impl.Matrix{theA})
	for text, want := range map[string]string{"": "a", "b": "ab"} {
		if got, texts, ok := impl.SetLines(begun, []string{text}); !ok || !slices.Equal(texts, []string{want}) || len(got.Magazine) != 3 || len(got.Line) != 0 || !slices.Equal(impl.KindCounts(got.Font, got.Magazine), []int{2, 2, 2}) {
			t.Errorf("%q: %+v, %q, %v", text, got, texts, ok)
		}
	}
}

func TestSetLinesWithStraysByHand(t *testing.T) {
	// The worn c goes to the channel of a, behind both, and comes out as an a.
	x := with(twoOfEach(3, measure(30, 2, 5)), [][]impl.Matrix{{theA, theA}, {theB, theB}, {wornC, theC}}, nil)
	got, texts, ok := impl.SetLines(x, []string{"c", "aa", "ab"})
	want := with(x, [][]impl.Matrix{{theA, theA, wornC}, {theB, theB}, {theC}}, nil)
	if !ok || !slices.Equal(texts, []string{"c", "aa", "cb"}) || !sameMachine(got, want) {
		t.Errorf("%+v, %q, %v", got, texts, ok)
	}
	// It waits while this channel is full, and keeps nothing else from going on.
	as := slices.Repeat([]impl.Matrix{theA}, 20)
	x.Magazine = [][]impl.Matrix{as, nil, {wornC}}
	got, texts, ok = impl.SetLines(x, []string{"c", "a"})
	want = with(x, [][]impl.Matrix{append(slices.Clone(as[:19]), wornC), nil, nil}, nil, theA)
	if !ok || !slices.Equal(texts, []string{"c", "a"}) || !sameMachine(got, want) {
		t.Errorf("%+v, %q, %v", got, texts, ok)
	}
	// It waits with MaxWaiting others: no more can be cast.
	x.Waiting = slices.Repeat([]impl.Matrix{theA}, 239)
	if got, texts, ok = impl.SetLines(x, []string{"c"}); !ok || len(got.Waiting) != 240 || !slices.Equal(texts, []string{"c"}) {
		t.Errorf("%+v, %q, %v", got, texts, ok)
	}
	if got, texts, ok = impl.SetLines(x, []string{"c", " "}); !ok || !slices.Equal(texts, []string{"c", " "}) {
		t.Errorf("%+v, %q, %v", got, texts, ok)
	}
	if got, texts, ok = impl.SetLines(x, []string{"ca"}); ok || len(texts) != 0 || !sameMachine(got, impl.Machine{}) {
		t.Errorf("%+v, %q, %v", got, texts, ok)
	}
}

func TestFaultsByHand(t *testing.T) {
	for _, c := range []struct {
		want, got string
		faults    []int
		ok        bool
	}{
		{"abc", "aac", []int{1}, true}, {"abc", "cba", []int{0, 2}, true}, {"abc", "abc", nil, true}, {"", "", nil, true}, {"ab", "ba", []int{0, 1}, true},
		{"\xff", "\xfe", []int{0}, true}, {"\u00e9", "\u00e8", []int{1}, true}, {"\u00e9a", "ab\x00", []int{0, 1, 2}, true}, {"a\x00", "a ", []int{1}, true},
		{"a", "", nil, false}, {"", "a", nil, false}, {"ab", "abc", nil, false}, {"abc", "bc", nil, false}, {"\u00e9", "e", nil, false},
	} {
		if faults, ok := impl.FaultsOf(c.want, c.got); ok != c.ok || !slices.Equal(faults, c.faults) {
			t.Errorf("FaultsOf(%q, %q) = %v, %v", c.want, c.got, faults, ok)
		}
	}
}
