package fleet_test

import (
	"math/rand"
	"testing"

	"flotilla/api"
)

// 21.7: the same steps bring the same answers

// The steps of drawn rows, done once more, bring the same, bit by bit.
func TestTheSameStepsBringTheSame(t *testing.T) {
	ends(t, "rows", func() {
		for _, k := range []kind{mixed, full, short, torn, wide} {
			for seed := range int64(12) {
				r := rand.New(rand.NewSource(1000 + seed))
				c, x, long := k(r)
				w := newWorld(t, c)
				w.goOn(r, x, long)
				w.end(r)
				again(t, w, c)
			}
		}
	})
}

// again does what a world did, twice.
func again(t *testing.T, w *world, c api.Config) {
	t.Helper()
	f, g := made(t, c), made(t, c)
	calms := w.calms
	for n := 0; n <= len(w.steps); n++ {
		for len(calms) > 0 && calms[0] == n {
			calms = calms[1:]
			a, x := f.Calm(200 * (1 + n))
			b, y := g.Calm(200 * (1 + n))
			if !same(a, b) || x != y {
				t.Fatal("behind", n, "steps Calm tells", a, x, "and", b, y)
			}
		}
		if n == len(w.steps) {
			break
		}
		if a, b := f.Do(w.steps[n]), g.Do(w.steps[n]); !same(a, b) {
			t.Fatal(n, w.steps[n], "tells", a, "and", b)
		}
		if n%50 == 0 && everything(f, c) != everything(g, c) {
			t.Fatal("behind", n, "steps", everything(f, c), everything(g, c))
		}
	}
	if everything(f, c) != everything(g, c) || everything(f, c) != everything(w.f, c) {
		t.Fatal("in the end", everything(f, c), everything(g, c), everything(w.f, c))
	}
}

// What the first steps bring doesn't hang on those behind them, nor on what another fleet does.
func TestFleetsDontKnowOfOneAnother(t *testing.T) {
	c := one(2, 1)
	f, g := made(t, c), made(t, c)
	okay(t, f, begin(1, 0), put(1, 0, "a", "x"), commit(1, 0))
	if everything(g, c) != everything(made(t, c), c) {
		t.Fatal("another fleet has changed")
	}
	okay(t, g, begin(1, 0), put(1, 0, "a", "x"), commit(1, 0))
	if everything(f, c) != everything(g, c) {
		t.Fatal(everything(f, c), everything(g, c))
	}
}
