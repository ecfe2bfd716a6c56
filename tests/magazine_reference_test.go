package tests

import (
	"slices"
	"strings"

	"loop.example/g03230/impl"
)

// The reference follows the sentences of chapter 3 with lists alone, and with
// the reference of chapter 2, so that it shares no step with the program.

func refFontOk(f impl.Font) bool {
	n := len(f.Letters)
	if n < 1 || n > 40 || len(f.Widths) != n || len(f.Codes) != n {
		return false
	}
	for i := range n {
		letter := f.Letters[i]
		if letter < 33 || letter > 126 || strings.IndexByte(f.Letters, letter) != i || f.Widths[i] < 1 || f.Widths[i] > 60 {
			return false
		}
	}
	return refSortsAll(f.Codes)
}

func refKey(f impl.Font, letter int) int {
	for i := range len(f.Letters) {
		if int(f.Letters[i]) == letter && refFontOk(f) {
			return i
		}
	}
	return -1
}

func refMatrixOk(f impl.Font, x impl.Matrix) bool {
	return refFontOk(f) && refHas(f, x)
}

func refHas(f impl.Font, x impl.Matrix) bool {
	return x.Kind >= 0 && x.Kind < len(f.Codes) && refIsSet(x.Teeth) && refIsPart(x.Teeth, f.Codes[x.Kind])
}

func refMagazineOk(f impl.Font, m [][]impl.Matrix) bool {
	if !refFontOk(f) || len(m) != len(f.Letters) {
		return false
	}
	for _, channel := range m {
		if len(channel) > 20 {
			return false
		}
		for _, x := range channel {
			if !refHas(f, x) {
				return false
			}
		}
	}
	return true
}

func refFill(f impl.Font, each int) ([][]impl.Matrix, bool) {
	if !refFontOk(f) || each < 0 || each > 20 {
		return nil, false
	}
	var m [][]impl.Matrix
	for kind, code := range f.Codes {
		m = append(m, slices.Repeat([]impl.Matrix{{Kind: kind, Teeth: code}}, each))
	}
	return m, true
}

func copied(m [][]impl.Matrix) [][]impl.Matrix {
	var copies [][]impl.Matrix
	for _, channel := range m {
		copies = append(copies, slices.Clone(channel))
	}
	return copies
}

func refTake(f impl.Font, m [][]impl.Matrix, channel int) ([][]impl.Matrix, impl.Matrix, bool) {
	if !refMagazineOk(f, m) || channel < 0 || channel >= len(m) || len(m[channel]) == 0 {
		return nil, impl.Matrix{}, false
	}
	after := copied(m)
	after[channel] = after[channel][1:]
	return after, m[channel][0], true
}

func refDrop(f impl.Font, m [][]impl.Matrix, x impl.Matrix) ([][]impl.Matrix, int, bool) {
	if !refMagazineOk(f, m) || !refMatrixOk(f, x) {
		return nil, 0, false
	}
	place := refFall(f.Codes, x.Teeth)
	if len(m[place]) == 20 {
		return nil, 0, false
	}
	after := copied(m)
	after[place] = append(after[place], x)
	return after, place, true
}

func refWear(f impl.Font, m [][]impl.Matrix, channel, i, tooth int) ([][]impl.Matrix, bool) {
	if !refMagazineOk(f, m) || channel < 0 || channel >= len(m) || i < 0 || i >= len(m[channel]) {
		return nil, false
	}
	if tooth < 0 || tooth > 6 || !refTeeth(m[channel][i].Teeth)[tooth] {
		return nil, false
	}
	after := copied(m)
	after[channel][i].Teeth -= []int{1, 2, 4, 8, 16, 32, 64}[tooth]
	return after, true
}

// eachMatrix calls visit in the order of the channels, and in these from the
// first one on.
func eachMatrix(m [][]impl.Matrix, visit func(channel int, x impl.Matrix)) {
	for channel := range m {
		for _, x := range m[channel] {
			visit(channel, x)
		}
	}
}

func refCounts(f impl.Font, m [][]impl.Matrix) ([]int, int, int) {
	if !refMagazineOk(f, m) {
		return nil, -1, -1
	}
	kinds, strays, worn := make([]int, len(m)), 0, 0
	eachMatrix(m, func(channel int, x impl.Matrix) {
		kinds[x.Kind]++
		if x.Kind != channel {
			strays++
		}
		if refCount(x.Teeth) < refCount(f.Codes[x.Kind]) {
			worn++
		}
	})
	return kinds, strays, worn
}

func refSweep(f impl.Font, m [][]impl.Matrix) ([][]impl.Matrix, int, bool) {
	if !refMagazineOk(f, m) {
		return nil, 0, false
	}
	after, strays := make([][]impl.Matrix, len(m)), 0
	eachMatrix(m, func(channel int, x impl.Matrix) {
		if x.Kind == channel {
			after[channel] = append(after[channel], x)
		}
	})
	eachMatrix(m, func(channel int, x impl.Matrix) {
		if x.Kind != channel {
			after[x.Kind] = append(after[x.Kind], x)
			strays++
		}
	})
	for _, channel := range after {
		if len(channel) > 20 {
			return nil, 0, false
		}
	}
	return after, strays, true
}

func refLetters(f impl.Font, list []impl.Matrix) string {
	letters, isFont := "", refFontOk(f)
	for _, x := range list {
		if !isFont || !refHas(f, x) {
			return ""
		}
		letters += f.Letters[x.Kind : x.Kind+1]
	}
	return letters
}
