package tests

import (
	"math"
	"slices"
	"strings"
	"testing"

	"loop.example/g03230/impl"
)

// P8 for chapter 3: every function returns what the chapter specifies.

func sameMagazine(a, b [][]impl.Matrix) bool {
	return slices.EqualFunc(a, b, slices.Equal[[]impl.Matrix])
}

func TestFonts(t *testing.T) {
	for _, f := range slices.Concat(fonts(), randomFonts(60, 40)) {
		if !impl.FontOk(f) || !refFontOk(f) {
			t.Errorf("%v is a font", f)
		}
		checkKeys(t, f)
	}
	for _, f := range badFonts() {
		if impl.FontOk(f) || refFontOk(f) {
			t.Errorf("%+v is no font", f)
		}
		checkKeys(t, f)
		checkMagazine(t, f, make([][]impl.Matrix, len(f.Letters)))
		checkMagazine(t, f, [][]impl.Matrix{{{Kind: 0, Teeth: 3}}, {{Kind: 1, Teeth: 5}}, {{Kind: 2, Teeth: 6}}})
		for each := -1; each <= 21; each++ {
			if m, ok := impl.FillMagazine(f, each); ok || len(m) != 0 {
				t.Errorf("FillMagazine(%v, %d) = %v, %v", f, each, m, ok)
			}
		}
	}
}

func checkKeys(t *testing.T, f impl.Font) {
	t.Helper()
	letters := slices.Concat(upTo(-130, 520), extremes)
	for i := range len(f.Letters) {
		b := int(f.Letters[i])
		letters = append(letters, b+1<<32, b-1<<32, b+1<<8, b-1<<8, b+1<<16, b+math.MinInt, -b)
	}
	for _, letter := range letters {
		if got, want := impl.KeyOf(f, letter), refKey(f, letter); got != want {
			t.Errorf("KeyOf(%v, %d) = %d; want %d", f, letter, got, want)
		}
	}
}

func TestMatrices(t *testing.T) {
	for _, f := range slices.Concat(fonts(), badFonts(), randomFonts(20, 40)) {
		list := matrices(f)
		for i, x := range list {
			if got := impl.MatrixOk(f, x); got != refMatrixOk(f, x) {
				t.Errorf("MatrixOk(%v, %v) = %v", f, x, got)
			}
			checkLetters(t, f, list[i:i+1])
			checkLetters(t, f, list[max(0, i-5):i])
		}
		good := slices.DeleteFunc(slices.Clone(list), func(x impl.Matrix) bool { return !refMatrixOk(f, x) })
		checkLetters(t, f, good)
		checkLetters(t, f, slices.Repeat(good, 20))
		checkLetters(t, f, append(slices.Clone(good), impl.Matrix{Kind: len(f.Codes)}))
		checkLetters(t, f, append([]impl.Matrix{{Kind: -1}}, good...))
	}
}

func checkLetters(t *testing.T, f impl.Font, list []impl.Matrix) {
	t.Helper()
	if got, want := impl.LettersOf(f, list), refLetters(f, list); got != want {
		t.Errorf("LettersOf(%v, %v) = %q; want %q", f, list, got, want)
	}
}

func TestFilledMagazines(t *testing.T) {
	for _, f := range slices.Concat(fonts(), randomFonts(10, 40)) {
		for _, each := range slices.Concat(upTo(-2, 26), extremes) {
			want, wantOk := refFill(f, each)
			if got, ok := impl.FillMagazine(f, each); ok != wantOk || !sameMagazine(got, want) {
				t.Errorf("FillMagazine(%v, %d) = %v, %v; want %v, %v", f, each, got, ok, want, wantOk)
			}
		}
	}
}

func TestMagazines(t *testing.T) {
	for _, f := range fonts() {
		for _, m := range magazines(f, 1+40/len(f.Letters)) {
			checkMagazine(t, f, m)
		}
	}
	for _, f := range slices.Concat(randomFonts(20, 6), randomFonts(4, 40)) {
		for _, m := range magazines(f, 3) {
			checkMagazine(t, f, m)
		}
	}
}

func TestWhatIsNoMagazine(t *testing.T) {
	for _, f := range fonts() {
		for _, m := range badMagazines(f) {
			checkRefused(t, f, m)
		}
	}
	m, _ := refFill(abcFont(), 3)
	for _, f := range badFonts() {
		checkRefused(t, f, m)
	}
}

func checkRefused(t *testing.T, f impl.Font, m [][]impl.Matrix) {
	t.Helper()
	if impl.MagazineOk(f, m) || len(impl.KindCounts(f, m)) != 0 || impl.CountStrays(f, m) != -1 || impl.CountWorn(f, m) != -1 {
		t.Errorf("%v counts as a magazine of %v", m, f)
	}
	if after, n, ok := impl.SweepMagazine(f, m); ok || n != 0 || len(after) != 0 {
		t.Errorf("SweepMagazine(%v, %v) = %v, %d, %v", f, m, after, n, ok)
	}
	for channel := range max(1, len(m)) {
		if after, x, ok := impl.TakeMatrix(f, m, channel); ok || x != of(0, 0) || len(after) != 0 {
			t.Errorf("TakeMatrix(%v, %v, %d) = %v, %v, %v", f, m, channel, after, x, ok)
		}
		if after, place, ok := impl.DropMatrix(f, m, of(channel, 0)); ok || place != 0 || len(after) != 0 {
			t.Errorf("DropMatrix(%v, %v) of kind %d = %v, %d, %v", f, m, channel, after, place, ok)
		}
		for tooth := range 7 {
			if after, ok := impl.WearMatrix(f, m, channel, tooth%2, tooth); ok || len(after) != 0 {
				t.Errorf("WearMatrix(%v, %v, %d) of tooth %d = %v, %v", f, m, channel, tooth, after, ok)
			}
		}
	}
}

// checkMagazine holds all functions that are given a magazine against the
// reference, with all channels, indices, teeth and matrices, and with what is
// none.
func checkMagazine(t *testing.T, f impl.Font, m [][]impl.Matrix) {
	t.Helper()
	if got := impl.MagazineOk(f, m); got != refMagazineOk(f, m) {
		t.Errorf("MagazineOk(%v, %v) = %v", f, m, got)
	}
	kinds, strays, worn := refCounts(f, m)
	if got := impl.KindCounts(f, m); !slices.Equal(got, kinds) {
		t.Errorf("KindCounts(%v, %v) = %v; want %v", f, m, got, kinds)
	}
	if s, w := impl.CountStrays(f, m), impl.CountWorn(f, m); s != strays || w != worn {
		t.Errorf("%v with %v has %d strays and %d worn; want %d and %d", m, f, s, w, strays, worn)
	}
	swept, n, ok := refSweep(f, m)
	if got, gotN, gotOk := impl.SweepMagazine(f, m); gotOk != ok || gotN != n || !sameMagazine(got, swept) {
		t.Errorf("SweepMagazine(%v, %v) = %v, %d, %v; want %v, %d, %v", f, m, got, gotN, gotOk, swept, n, ok)
	}
	for _, channel := range slices.Concat(upTo(-2, len(m)+4), some(extremes)) {
		checkChannel(t, f, m, channel)
	}
	for _, x := range some(matrices(f)) {
		checkDrop(t, f, m, x)
	}
}

// some leaves out most of a long list, others each time the list has another
// length.
func some[T any](list []T) []T {
	var left []T
	for i := len(list) % 7; i < len(list); i += 1 + len(list)/60 {
		left = append(left, list[i])
	}
	return left
}

func checkChannel(t *testing.T, f impl.Font, m [][]impl.Matrix, channel int) {
	t.Helper()
	after, x, ok := refTake(f, m, channel)
	if got, gotX, gotOk := impl.TakeMatrix(f, m, channel); gotOk != ok || gotX != x || !sameMagazine(got, after) {
		t.Errorf("TakeMatrix(%v, %v, %d) = %v, %v, %v; want %v, %v, %v", f, m, channel, got, gotX, gotOk, after, x, ok)
	}
	last := 0
	if channel >= 0 && channel < len(m) {
		last = len(m[channel])
		for i := 0; i < last; i += 1 + len(m)/4 {
			for tooth := range 7 {
				checkWear(t, f, m, channel, i, tooth)
			}
		}
	}
	for _, n := range []int{-1, 7, 20, 63, 64, last, math.MinInt, math.MaxInt, 1 << 32, 1 << 62} {
		checkWear(t, f, m, channel, n, 0)
		checkWear(t, f, m, channel, 0, n)
	}
}

func checkWear(t *testing.T, f impl.Font, m [][]impl.Matrix, channel, i, tooth int) {
	t.Helper()
	want, wantOk := refWear(f, m, channel, i, tooth)
	if got, ok := impl.WearMatrix(f, m, channel, i, tooth); ok != wantOk || !sameMagazine(got, want) {
		t.Errorf("WearMatrix(%v, %v, %d, %d, %d) = %v, %v; want %v, %v", f, m, channel, i, tooth, got, ok, want, wantOk)
	}
}

func checkDrop(t *testing.T, f impl.Font, m [][]impl.Matrix, x impl.Matrix) {
	t.Helper()
	want, place, ok := refDrop(f, m, x)
	if got, gotPlace, gotOk := impl.DropMatrix(f, m, x); gotOk != ok || gotPlace != place || !sameMagazine(got, want) {
		t.Errorf("DropMatrix(%v, %v, %v) = %v, %d, %v; want %v, %d, %v", f, m, x, got, gotPlace, gotOk, want, place, ok)
	}
}

// The reference could share a misreading with the program: these values were
// worked out by hand from the document. In the magazines below a matrix is
// written as its letter, with a sign behind it if it has lost teeth.

func of(kind, teeth int) impl.Matrix { return impl.Matrix{Kind: kind, Teeth: teeth} }

func TestKeysByHand(t *testing.T) {
	f := nestFont()
	for _, c := range []struct{ letter, want int }{
		{'~', 0}, {'!', 1}, {'0', 2}, {'a', 3}, {'Z', 4},
		{'z', -1}, {'A', -1}, {' ', -1}, {0, -1}, {127, -1}, {3, -1}, {-1, -1}, {'a' + 256, -1}, {'a' + 1<<32, -1}, {'a' + math.MinInt, -1}, {math.MaxInt, -1},
	} {
		if got := impl.KeyOf(f, c.letter); got != c.want {
			t.Errorf("KeyOf(%v, %d) = %d; want %d", f, c.letter, got, c.want)
		}
	}
	if impl.KeyOf(impl.Font{Letters: "aba", Widths: []int{1, 1, 1}, Codes: []int{1, 2, 4}}, 'b') != -1 || impl.KeyOf(impl.Font{}, 0) != -1 {
		t.Error("what is no font has keys")
	}
}

func TestMatricesByHand(t *testing.T) {
	f := abcFont()
	for _, c := range []struct {
		x    impl.Matrix
		want bool
	}{
		{of(0, 3), true}, {of(0, 0), true}, {of(2, 2), true}, {of(1, 4), true},
		{of(1, 2), false}, {of(0, 7), false}, {of(3, 0), false}, {of(-1, 0), false}, {of(0, 128), false}, {of(0, -1), false},
		{of(math.MaxInt, 0), false}, {of(math.MinInt, 0), false}, {of(0, math.MinInt), false}, {of(0, 1<<32), false},
	} {
		if got := impl.MatrixOk(f, c.x); got != c.want {
			t.Errorf("MatrixOk(%v, %v) = %v", f, c.x, got)
		}
	}
	if impl.LettersOf(f, []impl.Matrix{of(2, 6), of(0, 0), of(1, 1), of(0, 3)}) != "caba" || impl.LettersOf(f, []impl.Matrix{of(2, 6), of(-1, 0)}) != "" || impl.LettersOf(f, nil) != "" {
		t.Error("letters of matrices")
	}
	if impl.LettersOf(nestFont(), slices.Repeat([]impl.Matrix{of(0, 0), of(1, 2)}, 500)) != strings.Repeat("~!", 500) {
		t.Error("letters of a long list")
	}
}

func TestMagazineByHand(t *testing.T) {
	f := abcFont()
	m, ok := impl.FillMagazine(f, 1)
	if !ok || !sameMagazine(m, [][]impl.Matrix{{of(0, 3)}, {of(1, 5)}, {of(2, 6)}}) {
		t.Fatalf("a filled magazine is %v", m)
	}
	// A c that has lost the tooth 2 falls as an a, one that has lost 1 as a b.
	m, place, ok := impl.DropMatrix(f, m, of(2, 2))
	if !ok || place != 0 {
		t.Fatalf("a c falls at %d", place)
	}
	m, place, ok = impl.DropMatrix(f, m, of(2, 4))
	if !ok || place != 1 || !sameMagazine(m, [][]impl.Matrix{{of(0, 3), of(2, 2)}, {of(1, 5), of(2, 4)}, {of(2, 6)}}) {
		t.Fatalf("a c falls at %d: %v", place, m)
	}
	m, ok = impl.WearMatrix(f, m, 0, 0, 0)
	if !ok || m[0][0] != of(0, 2) {
		t.Fatalf("a worn a in %v", m)
	}
	if kinds := impl.KindCounts(f, m); !slices.Equal(kinds, []int{1, 1, 3}) || impl.CountStrays(f, m) != 2 || impl.CountWorn(f, m) != 3 {
		t.Errorf("%v has %v", m, kinds)
	}
	swept, strays, ok := impl.SweepMagazine(f, m)
	if !ok || strays != 2 || !sameMagazine(swept, [][]impl.Matrix{{of(0, 2)}, {of(1, 5)}, {of(2, 6), of(2, 2), of(2, 4)}}) {
		t.Errorf("%v was swept to %v", m, swept)
	}
	taken, x, ok := impl.TakeMatrix(f, m, 1)
	if !ok || x != of(1, 5) || !sameMagazine(taken, [][]impl.Matrix{{of(0, 2), of(2, 2)}, {of(2, 4)}, {of(2, 6)}}) {
		t.Errorf("%v was taken from %v", x, m)
	}
}

func TestSweepsAtTheRoomByHand(t *testing.T) {
	f := impl.Font{Letters: "ab", Widths: []int{1, 1}, Codes: []int{1, 2}}
	a, b := slices.Repeat([]impl.Matrix{of(0, 1)}, 20), slices.Repeat([]impl.Matrix{of(1, 2)}, 20)
	if m, n, ok := impl.SweepMagazine(f, [][]impl.Matrix{b, a}); !ok || n != 40 || !sameMagazine(m, [][]impl.Matrix{a, b}) {
		t.Errorf("two full channels of strays were swept to %v", m)
	}
	if m, n, ok := impl.SweepMagazine(f, [][]impl.Matrix{a[:19], {of(1, 2), of(0, 0), of(1, 0)}}); !ok || n != 1 || len(m) != 2 || len(m[0]) != 20 || m[0][19] != of(0, 0) {
		t.Errorf("a stray comes to the last room: %v", m)
	}
	if m, n, ok := impl.SweepMagazine(f, [][]impl.Matrix{a, {of(1, 2), of(0, 0)}}); ok || n != 0 || len(m) != 0 {
		t.Errorf("a stray comes to a full channel: %v, %d", m, n)
	}
	if m, n, ok := impl.SweepMagazine(f, [][]impl.Matrix{b[:1], append(slices.Clone(b[:19]), of(0, 1))}); !ok || n != 2 || len(m) != 2 || len(m[0]) != 1 || len(m[1]) != 20 {
		t.Errorf("a stray leaves a full channel for another one: %v", m)
	}
	if m, _, ok := impl.DropMatrix(f, [][]impl.Matrix{a, b[:19]}, of(1, 0)); ok || len(m) != 0 {
		t.Errorf("a worn b falls into a full channel: %v", m)
	}
	if m, place, ok := impl.DropMatrix(f, [][]impl.Matrix{a, b[:19]}, of(1, 2)); !ok || place != 1 || len(m) != 2 || len(m[1]) != 20 {
		t.Errorf("a b falls into the last room: %v", m)
	}
	if m, x, ok := impl.TakeMatrix(f, [][]impl.Matrix{nil, b}, 0); ok || x != of(0, 0) || len(m) != 0 {
		t.Errorf("%v comes out of an empty channel", x)
	}
}
