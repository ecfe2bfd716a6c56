package tests

import (
	"math/rand/v2"
	"slices"
	"testing"

	"loop.example/g03230/impl"
)

// P2. Matrices that are taken, dropped, worn and swept are kept, and unworn ones
// come home.

// work is a magazine and the matrices that were taken from it.
type work struct {
	t     *testing.T
	f     impl.Font
	m     [][]impl.Matrix
	taken []impl.Matrix
	seen  map[string]int
}

// all returns how many of each matrix are in the magazine and among the taken.
func (w *work) all() map[impl.Matrix]int {
	n := map[impl.Matrix]int{}
	for _, x := range slices.Concat(append(copied(w.m), w.taken)...) {
		n[x]++
	}
	return n
}

func sameStock(a, b map[impl.Matrix]int) bool {
	for x := range a {
		if a[x] != b[x] {
			return false
		}
	}
	for x := range b {
		if a[x] != b[x] {
			return false
		}
	}
	return true
}

func (w *work) take(channel int) {
	m, x, ok := impl.TakeMatrix(w.f, w.m, channel)
	if ok != (len(w.m[channel]) > 0) {
		w.t.Fatalf("TakeMatrix of %v from channel %d answers %v", w.m, channel, ok)
	}
	if ok {
		if x != w.m[channel][0] {
			w.t.Fatalf("%v left %v first", x, w.m[channel])
		}
		w.m, w.taken = m, append(w.taken, x)
		w.seen["taken"]++
	}
}

func (w *work) drop(i int) {
	x := w.taken[i]
	m, place, ok := impl.DropMatrix(w.f, w.m, x)
	if !ok {
		if len(w.m[impl.FallOf(w.f.Codes, x.Teeth)]) < impl.MaxRoom {
			w.t.Fatalf("%v was not dropped into %v", x, w.m)
		}
		w.seen["refused"]++
		return
	}
	if x.Teeth == w.f.Codes[x.Kind] && place != x.Kind || place > x.Kind {
		w.t.Fatalf("%v came to channel %d of %v", x, place, w.f)
	}
	if last := len(m[place]) - 1; m[place][last] != x {
		w.t.Fatalf("%v is not the last one in %v", x, m[place])
	}
	if place != x.Kind {
		w.seen["dropped astray"]++
	}
	w.m, w.taken = m, slices.Delete(w.taken, i, i+1)
	w.seen["dropped"]++
}

func (w *work) wear(channel, i, tooth int) {
	before, worn := w.all(), impl.CountWorn(w.f, w.m)
	m, ok := impl.WearMatrix(w.f, w.m, channel, i, tooth)
	if !ok {
		return
	}
	x, y := w.m[channel][i], m[channel][i]
	if x.Kind != y.Kind || impl.CountTeeth(y.Teeth) != impl.CountTeeth(x.Teeth)-1 || impl.FallOf([]int{x.Teeth}, y.Teeth) != 0 {
		w.t.Fatalf("%v was worn to %v", x, y)
	}
	before[x]--
	before[y]++
	w.m = m
	if !sameStock(w.all(), before) || impl.CountWorn(w.f, m) < worn || impl.CountWorn(w.f, m) > worn+1 {
		w.t.Fatalf("wear at %d in channel %d changed others in %v", i, channel, m)
	}
	w.seen["worn"]++
}

func (w *work) sweep() {
	strays := impl.CountStrays(w.f, w.m)
	m, n, ok := impl.SweepMagazine(w.f, w.m)
	fits := !slices.ContainsFunc(impl.KindCounts(w.f, w.m), func(n int) bool { return n > impl.MaxRoom })
	if ok != fits {
		w.t.Fatalf("SweepMagazine of %v answers %v", w.m, ok)
	}
	if ok {
		if n != strays || impl.CountStrays(w.f, m) != 0 {
			w.t.Fatalf("%d of %d strays in %v were swept to %v", n, strays, w.m, m)
		}
		w.m = m
		w.seen["swept"] += n
	}
}

func (w *work) step(random *rand.Rand, wears bool) {
	before := w.all()
	channel := random.IntN(len(w.m))
	switch random.IntN(9) {
	case 0, 1, 2, 3:
		w.take(channel)
	case 4, 5, 6, 7:
		if len(w.taken) > 0 {
			w.drop(random.IntN(len(w.taken)))
		}
	default:
		if random.IntN(4) == 0 {
			w.sweep()
		}
	}
	if !impl.MagazineOk(w.f, w.m) || !sameStock(w.all(), before) {
		w.t.Fatalf("matrices of %v came or went", w.m)
	}
	if wears && len(w.m[channel]) > 0 && random.IntN(3) == 0 {
		w.wear(channel, random.IntN(len(w.m[channel])), random.IntN(7))
	}
}

func TestMatricesAreKept(t *testing.T) {
	random := rand.New(rand.NewPCG(1886, 5))
	seen := map[string]int{}
	for _, f := range slices.Concat(fonts(), randomFonts(20, 8)) {
		for _, each := range []int{1, 6, 19, 20} {
			m, ok := impl.FillMagazine(f, each)
			if !ok {
				t.Fatalf("%v has no magazine", f)
			}
			w := &work{t: t, f: f, m: m, seen: seen}
			for range 150 {
				w.step(random, true)
			}
		}
	}
	for _, name := range []string{"taken", "dropped", "dropped astray", "refused", "worn", "swept"} {
		if seen[name] == 0 {
			t.Errorf("no matrix was %s", name)
		}
	}
}

func TestUnwornMatricesComeHome(t *testing.T) {
	random := rand.New(rand.NewPCG(1886, 6))
	for _, f := range slices.Concat(fonts(), randomFonts(20, 40)) {
		m, ok := impl.FillMagazine(f, 1+random.IntN(20))
		if !ok {
			t.Fatalf("%v has no magazine", f)
		}
		w := &work{t: t, f: f, m: m, seen: map[string]int{}}
		for range 100 {
			w.step(random, false)
			if impl.CountStrays(f, w.m) != 0 || impl.CountWorn(f, w.m) != 0 {
				t.Fatalf("unworn matrices went astray in %v", w.m)
			}
		}
		for len(w.taken) > 0 {
			w.drop(0)
		}
		if !sameMagazine(w.m, m) {
			t.Errorf("%v came home to %v", m, w.m)
		}
	}
}

func TestMatricesLeaveAsTheyCame(t *testing.T) {
	f := abcFont()
	m, _ := impl.FillMagazine(f, 0)
	worn := []impl.Matrix{of(0, 3), of(1, 1), of(2, 2), of(0, 0), of(0, 3), of(2, 0)}
	for _, x := range worn {
		m, _, _ = impl.DropMatrix(f, m, x)
	}
	for _, want := range worn {
		after, x, ok := impl.TakeMatrix(f, m, 0)
		if !ok || x != want {
			t.Fatalf("%v leaves %v before %v", x, m, want)
		}
		m = after
	}
}
