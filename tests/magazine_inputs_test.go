package tests

import (
	"math/rand/v2"
	"slices"

	"loop.example/g03230/impl"
)

const allLetters = "!\"#$%&'()*+,-./0123456789:;<=>?@ABCDEFGHIJKLMNOPQRSTUVWXYZ[\\]^_`abcdefghijklmnopqrstuvwxyz{|}~"

func abcFont() impl.Font {
	return impl.Font{Letters: "abc", Widths: []int{4, 5, 6}, Codes: []int{3, 5, 6}}
}

// nestFont has codes that are parts of later ones, so that a worn matrix falls
// at many places.
func nestFont() impl.Font {
	return impl.Font{Letters: "~!0aZ", Widths: []int{1, 60, 30, 2, 59}, Codes: []int{0, 2, 6, 14, 127}}
}

func longFont() impl.Font {
	return impl.Font{Letters: allLetters[94-40:], Widths: upTo(21, 40), Codes: upTo(0, 40)}
}

func fonts() []impl.Font {
	return []impl.Font{
		abcFont(), nestFont(), longFont(),
		{Letters: "!", Widths: []int{1}, Codes: []int{0}},
		{Letters: "~", Widths: []int{60}, Codes: []int{127}},
		{Letters: "aeinost", Widths: []int{5, 5, 3, 6, 6, 5, 4}, Codes: []int{3, 5, 6, 9, 10, 12, 17}},
		{Letters: allLetters[:40], Widths: repeated(60, 40), Codes: upTo(88, 40)},
	}
}

// badFonts returns what chapter 3 names as no font, each with one fault.
func badFonts() []impl.Font {
	bad := []impl.Font{
		{},
		{Letters: allLetters[:41], Widths: repeated(1, 41), Codes: upTo(0, 41)},
		{Letters: allLetters + allLetters, Widths: repeated(1, 188), Codes: upTo(0, 188)},
	}
	for _, letters := range []string{"", "ab", "abcd", "aab", "aba", "abb", "aaa", "a c", " bc", "ab\x7f", "a\nc", "a\x00c", "ab\x80", "\xffbc", "a\u00e9", "\u00e9", "a\u00e9c", "\u20ac", "a\u20ac", "\xc3\xc3c"} {
		f := abcFont()
		f.Letters = letters
		bad = append(bad, f)
	}
	for _, widths := range [][]int{nil, {4, 5}, {4, 5, 6, 7}, {0, 5, 6}, {4, 0, 6}, {4, 5, 61}, {61, 5, 6}, {4, -1, 6}} {
		f := abcFont()
		f.Widths = widths
		bad = append(bad, f)
	}
	for _, codes := range [][]int{nil, {3, 5}, {3, 5, 6, 9}, {3, 5, 5}, {3, 3, 6}, {3, 1, 6}, {7, 5, 6}, {3, 5, 0}, {127, 126, 125}, {-1, 5, 6}, {3, 128, 6}, {3, 5, 128}} {
		f := abcFont()
		f.Codes = codes
		bad = append(bad, f)
	}
	for _, n := range extremes {
		f, g := abcFont(), abcFont()
		f.Widths = []int{4, n, 6}
		g.Codes = []int{3, 5, n}
		bad = append(bad, f, g)
	}
	return bad
}

func randomFonts(n int, longest int) []impl.Font {
	random := rand.New(rand.NewPCG(1886, 3))
	list := make([]impl.Font, n)
	for i := range list {
		size := 1 + random.IntN(longest)
		letters, widths := make([]byte, size), make([]int, size)
		for j, k := range random.Perm(94)[:size] {
			letters[j], widths[j] = allLetters[k], 1+random.IntN(60)
		}
		sets := random.Perm(64)[:size]
		if random.IntN(2) == 0 {
			sets = random.Perm(128)[:size]
		}
		codes, _ := refOrder(sets)
		list[i] = impl.Font{Letters: string(letters), Widths: widths, Codes: codes}
	}
	return list
}

// randomMagazine has matrices of all kinds in all channels: as many as most says
// in a channel at most, some of them worn.
func randomMagazine(random *rand.Rand, f impl.Font, most int) [][]impl.Matrix {
	m := make([][]impl.Matrix, len(f.Codes))
	for channel := range m {
		for range random.IntN(most + 1) {
			m[channel] = append(m[channel], randomMatrix(random, f, channel))
		}
	}
	return m
}

func randomMatrix(random *rand.Rand, f impl.Font, channel int) impl.Matrix {
	kind := channel
	if random.IntN(3) == 0 {
		kind = random.IntN(len(f.Codes))
	}
	x := impl.Matrix{Kind: kind, Teeth: f.Codes[kind]}
	if random.IntN(2) == 0 {
		x.Teeth &= random.IntN(128)
	}
	return x
}

// magazines returns magazines of the font: empty and full ones, those full of
// strays, with one channel empty or full, and random ones.
func magazines(f impl.Font, n int) [][][]impl.Matrix {
	random := rand.New(rand.NewPCG(1886, 4))
	var list [][][]impl.Matrix
	for _, each := range []int{0, 1, 2, 10, 19, 20} {
		full, _ := refFill(f, each)
		turned := append(slices.Clone(full[1:]), full[0])
		one, but := copied(full), copied(full)
		one[len(one)-1] = nil
		but[0] = slices.Repeat([]impl.Matrix{full0(f)}, 20)
		list = append(list, full, copied(turned), one, but)
	}
	for range n {
		list = append(list, randomMagazine(random, f, 1+random.IntN(20)))
	}
	return list
}

func full0(f impl.Font) impl.Matrix { return impl.Matrix{Kind: len(f.Codes) - 1, Teeth: 0} }

// matrices returns matrices of the font, unworn and worn, and what is none.
func matrices(f impl.Font) []impl.Matrix {
	var list []impl.Matrix
	for kind := -2; kind <= len(f.Codes)+1; kind++ {
		code := 5
		if kind >= 0 && kind < len(f.Codes) {
			code = f.Codes[kind]
		}
		for _, s := range []int{0, 1, 2, 3, 64, 127, 128, -1, code, code & 85, code & 42, code & 15, code - 1, code + 1, code ^ 127, code + 128} {
			list = append(list, impl.Matrix{Kind: kind, Teeth: s})
		}
	}
	for _, n := range extremes {
		list = append(list, impl.Matrix{Kind: n, Teeth: 0}, impl.Matrix{Kind: 0, Teeth: n}, impl.Matrix{Kind: n, Teeth: n})
	}
	return list
}

// badMagazines returns what is no magazine of the font, each with one fault.
func badMagazines(f impl.Font) [][][]impl.Matrix {
	good, _ := refFill(f, 2)
	bad := [][][]impl.Matrix{nil, {}, good[1:], append(copied(good), nil), append(copied(good), good[0])}
	for channel := range good {
		m := copied(good)
		m[channel] = slices.Repeat(m[channel][:1], 21)
		bad = append(bad, m)
	}
	for _, x := range matrices(f) {
		if !refMatrixOk(f, x) {
			first, last := copied(good), copied(good)
			first[0][0] = x
			last[len(last)-1][1] = x
			bad = append(bad, first, last)
		}
	}
	return bad
}
