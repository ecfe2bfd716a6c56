package tests

import (
	"slices"
	"testing"

	"loop.example/g03230/impl"
)

// P8 with chapter 1, for chapter 3: fonts and magazines stay as they are, with
// what is behind their lists, and results share no memory.

var behindMatrix = impl.Matrix{Kind: behind, Teeth: behind}

// roomyFont and roomyMagazine have spare capacity behind each of their lists.
func roomyFont(f impl.Font) impl.Font {
	f.Widths, _ = roomy(f.Widths)
	f.Codes, _ = roomy(f.Codes)
	return f
}

func roomyMagazine(m [][]impl.Matrix) [][]impl.Matrix {
	all := make([][]impl.Matrix, 0, 60)
	for _, channel := range m {
		all = append(all, append(slices.Clone(channel), slices.Repeat([]impl.Matrix{behindMatrix}, 30)...)[:len(channel)])
	}
	for len(all) < cap(all) {
		all = append(all, []impl.Matrix{behindMatrix})
	}
	return all[:len(m)]
}

func sameFonts(a, b impl.Font) bool {
	return a.Letters == b.Letters && slices.Equal(a.Widths[:cap(a.Widths)], b.Widths[:cap(b.Widths)]) && slices.Equal(a.Codes[:cap(a.Codes)], b.Codes[:cap(b.Codes)])
}

func wholeMagazine(m [][]impl.Matrix) [][]impl.Matrix {
	var all [][]impl.Matrix
	for _, channel := range m[:cap(m)] {
		all = append(all, slices.Clone(channel[:cap(channel)]))
	}
	return all
}

// spoil writes into all memory of the magazine, a different matrix into each
// channel, and reports whether one of them kept its own.
func spoil(m [][]impl.Matrix) bool {
	for i, channel := range m {
		channel = channel[:cap(channel)]
		for j := range channel {
			channel[j] = impl.Matrix{Kind: i, Teeth: -5}
		}
	}
	shared := false
	for i, channel := range m {
		for _, x := range channel[:cap(channel)] {
			shared = shared || x.Kind != i
		}
	}
	for i := range m[:cap(m)] {
		m[:cap(m)][i] = nil
	}
	return shared
}

func magazineCalls(f impl.Font, m [][]impl.Matrix) map[string]func() [][]impl.Matrix {
	last := len(m) - 1
	return map[string]func() [][]impl.Matrix{
		"FillMagazine": func() [][]impl.Matrix {
			filled, _ := impl.FillMagazine(f, 3)
			return filled
		},
		"TakeMatrix of the first channel": func() [][]impl.Matrix {
			after, _, _ := impl.TakeMatrix(f, m, 0)
			return after
		},
		"TakeMatrix of the last channel": func() [][]impl.Matrix {
			after, _, _ := impl.TakeMatrix(f, m, last)
			return after
		},
		"DropMatrix to the first channel": func() [][]impl.Matrix {
			after, _, _ := impl.DropMatrix(f, m, impl.Matrix{})
			return after
		},
		"DropMatrix to the last channel": func() [][]impl.Matrix {
			after, _, _ := impl.DropMatrix(f, m, impl.Matrix{Kind: last, Teeth: f.Codes[last]})
			return after
		},
		"WearMatrix": func() [][]impl.Matrix {
			for tooth := range 7 {
				if after, ok := impl.WearMatrix(f, m, last, 0, tooth); ok {
					return after
				}
			}
			return nil
		},
		"SweepMagazine": func() [][]impl.Matrix {
			after, _, _ := impl.SweepMagazine(f, m)
			return after
		},
		"KindCounts": func() [][]impl.Matrix {
			counts := impl.KindCounts(f, m)
			kept := slices.Clone(counts)
			fillAll(counts)
			return row(kept)
		},
		"a function that returns a number": func() [][]impl.Matrix {
			numbers := append(truth(impl.FontOk(f)), impl.KeyOf(f, 'a'), impl.CountStrays(f, m), impl.CountWorn(f, m))
			numbers = append(numbers, truth(impl.MagazineOk(f, m))...)
			numbers = append(numbers, truth(impl.MatrixOk(f, impl.Matrix{}))...)
			for _, channel := range m {
				numbers = append(numbers, len(impl.LettersOf(f, channel)))
			}
			return row(numbers)
		},
	}
}

// row writes numbers as a magazine of one channel, to hold them against others.
func row(numbers []int) [][]impl.Matrix {
	channel := make([]impl.Matrix, len(numbers))
	for i, n := range numbers {
		channel[i].Kind = n
	}
	return [][]impl.Matrix{channel}
}

func TestMagazinesKeepTheirArguments(t *testing.T) {
	for _, plain := range slices.Concat(fonts(), randomFonts(10, 12)) {
		for _, list := range magazines(plain, 4) {
			f, m := roomyFont(plain), roomyMagazine(list)
			before := wholeMagazine(m)
			for name, call := range magazineCalls(f, m) {
				first := call()
				want := copied(first)
				second := call()
				if spoil(first) {
					t.Fatalf("channels that %s of %v returned share memory", name, list)
				}
				if !sameMagazine(second, want) || !sameMagazine(call(), want) {
					t.Fatalf("%s of %v shares memory or keeps state", name, list)
				}
				if !sameMagazine(wholeMagazine(m), before) || !sameFonts(f, roomyFont(plain)) {
					t.Fatalf("%s of %v modified its arguments", name, list)
				}
			}
		}
	}
}
