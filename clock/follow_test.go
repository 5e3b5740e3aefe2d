package clock_test

import (
	"math"
	"math/rand"
	"testing"

	"flotilla/api"
	"flotilla/clock"
)

// 14.1 to 14.4, P1: every ring of few frames, long rows of calls, any arguments

// everyRing goes through every ring of n of some frames, those that may not be too, with the hand from -1 to n.
func everyRing(n int, frames []api.Frame, do func(r api.Ring)) {
	all := 1
	for range n {
		all *= len(frames)
	}
	for code := range all {
		r := ring(0, make([]api.Frame, n)...)
		for i := range n {
			r.Frames[i] = frames[code%len(frames)]
			code /= len(frames)
		}
		for r.Hand = -1; r.Hand <= n; r.Hand++ {
			do(r)
		}
	}
}

// framesOf is every frame of some pages and pins, used and not.
func framesOf(pages, pins []int) []api.Frame {
	var all []api.Frame
	for _, page := range pages {
		for _, n := range pins {
			all = append(all, pinned(page, n), usedPin(page, n))
		}
	}
	return all
}

func TestEveryRingOfFewFrames(t *testing.T) {
	ends(t, "every ring of few frames", func() {
		j := judge{t: t}
		for n := range 2 {
			everyRing(n, framesOf(ints(), ints()), func(r api.Ring) { j.all(r, []int{-1, 0, 15, 16}, []int{-1, 0, 1}) })
			everyRing(n, framesOf([]int{-2, -1, 0, 1, 15, 16}, []int{-1, 0, 1, most, most + 1}), func(r api.Ring) { j.all(r, ints(), ints()) })
		}
		everyRing(2, framesOf([]int{-2, -1, 0, 15, 16}, []int{-1, 0, 1, most, most + 1}), func(r api.Ring) {
			j.all(r, []int{-2, -1, 0, 1, 15, 16}, []int{-most, -1, 0, 1, most})
		})
		everyRing(3, framesOf([]int{-1, 0, 1, 2}, []int{0, 1}), func(r api.Ring) { j.all(r, []int{-1, 0, 1, 3}, []int{-1, 0, 1}) })
	})
}

// toss is a ring with anything in it; it often may be.
func toss(r *rand.Rand) api.Ring {
	n := 1 + r.Intn(16)
	all := api.Ring{Hand: r.Intn(n)}
	pages := r.Perm(16)
	for i := range n {
		f := api.Frame{Page: pages[i], Used: r.Intn(2) == 0}
		switch r.Intn(5) {
		case 0:
			f = empty()
		case 1:
			f.Pins = 1 + r.Intn(most)
		case 2:
			f.Pins = most
		}
		all.Frames = append(all.Frames, f)
	}
	if r.Intn(3) > 0 {
		return all
	}
	some := func() int { l := ints(); return l[r.Intn(len(l))] }
	at := r.Intn(n)
	switch r.Intn(6) {
	case 0:
		all.Hand = some()
	case 1:
		all.Frames[at].Page = some()
	case 2:
		all.Frames[at].Pins = some()
	case 3:
		all.Frames[at] = api.Frame{Page: -1, Used: r.Intn(2) == 0, Pins: r.Intn(2)}
	case 4:
		all.Frames[at].Page = all.Frames[r.Intn(n)].Page
	case 5:
		all.Frames = append(all.Frames, all.Frames...)
	}
	return all
}

func TestAnyRing(t *testing.T) {
	ends(t, "any ring", func() {
		j := judge{t: t}
		r := rand.New(rand.NewSource(14))
		seen := map[api.Errno]int{}
		for range 5000 {
			x := toss(r)
			seen[j.check(x)]++
			j.all(x, []int{-2, -1, r.Intn(16), r.Intn(16), 16, math.MaxInt, math.MinInt}, []int{-r.Intn(most), r.Intn(most), -1, 0, 1, -most, most, math.MaxInt, math.MinInt})
			if j.words.may(x) && len(free(x)) > 0 {
				follows(j, x)
			}
		}
		if seen[api.OK] < 1000 || seen[api.ErrArg] < 500 {
			t.Error("too few:", seen)
		}
	})
}

// someCalls does calls in any order, each to the ring that the last one told; it counts what was answered.
func someCalls(j judge, r *rand.Rand, x api.Ring, steps int, seen map[string]map[api.Errno]int) {
	j.t.Helper()
	pages := 1 + r.Intn(17)
	pins := []int{0, 1, 1, 1, 2, -1, -1, -1, -2, most, -most, most - 1, math.MaxInt, math.MinInt}
	for range steps {
		page := r.Intn(pages+1) - 1
		var what string
		var then api.Ring
		var e api.Errno
		switch r.Intn(10) {
		case 0, 1, 2:
			what = "Put"
			then, e = j.put(x, page)
		case 3:
			what = "Drop"
			then, e = j.drop(x, page)
		case 4:
			what = "Touch"
			then, e = j.touch(x, page)
		case 5, 6:
			what = "Pin"
			then, e = j.pin(x, page, pins[r.Intn(len(pins))])
		case 7:
			what = "Next"
			_, then, e = j.next(x)
		default: // as a pool does it: the page whose frame is told goes
			what = "Next"
			var i int
			if i, then, e = j.next(x); e == api.OK && then.Frames[i].Page >= 0 {
				then, _ = j.drop(then, then.Frames[i].Page)
			}
		}
		if seen[what] == nil {
			seen[what] = map[api.Errno]int{}
		}
		seen[what][e]++
		if e == api.OK {
			x = then
		}
		if j.check(x) != api.OK {
			j.t.Fatalf("%s: a ring that may not be: %v", what, x)
		}
		j.at(x, page)
	}
}

func TestLongRowsOfCalls(t *testing.T) {
	ends(t, "long rows of calls", func() {
		j := judge{t: t}
		r := rand.New(rand.NewSource(41))
		seen := map[string]map[api.Errno]int{}
		for round := range 200 {
			x, _ := clock.New(1 + round%16)
			someCalls(j, r, x, 500, seen)
		}
		for what, errors := range map[string][]api.Errno{
			"Put":   {api.OK, api.ErrArg, api.ErrTwice, api.ErrBusy},
			"Drop":  {api.OK, api.ErrNone, api.ErrState},
			"Touch": {api.OK, api.ErrNone},
			"Pin":   {api.OK, api.ErrNone, api.ErrState},
			"Next":  {api.OK, api.ErrBusy},
		} {
			for _, e := range errors {
				if seen[what][e] < 50 {
					t.Errorf("%s: too few %v: %v", what, e, seen[what])
				}
			}
		}
	})
}

// What was told stays as it was, whatever is called behind it.
func TestWhatWasToldStays(t *testing.T) {
	x, _ := clock.New(3)
	var told, mine []api.Ring
	keep := func(r api.Ring, e api.Errno) {
		if e != api.OK {
			return
		}
		told = append(told, r)
		mine = append(mine, api.Ring{Frames: append([]api.Frame(nil), r.Frames...), Hand: r.Hand})
		x = r
	}
	r := rand.New(rand.NewSource(4))
	for range 2000 {
		page := r.Intn(5)
		keep(clock.Put(x, page))
		keep(clock.Touch(x, r.Intn(5)))
		keep(clock.Pin(x, r.Intn(5), r.Intn(4)-2))
		_, next, e := clock.Next(x)
		keep(next, e)
		keep(clock.Drop(x, r.Intn(5)))
	}
	for i := range told {
		if !same(told[i], mine[i]) {
			t.Fatalf("told was %v, and now it is %v", mine[i], told[i])
		}
	}
	if len(told) < 3000 {
		t.Error("too few:", len(told))
	}
}

// P1: rings of very many frames, and none.
func TestGreatRings(t *testing.T) {
	ends(t, "great rings", func() {
		for _, n := range []int{0, 17, 18, 32, 256, 257, 1 << 16, 1 << 20} {
			for _, f := range []api.Frame{empty(), idle(3), used(3), pinned(3, 1), usedPin(-1, -1)} {
				frames := make([]api.Frame, n)
				for i := range frames {
					frames[i] = f
				}
				for _, hand := range []int{0, -1, n - 1, n, 16, math.MaxInt, math.MinInt} {
					r := ring(hand, frames...)
					if clock.Check(r) != api.ErrArg || clock.At(r, 3) != -1 {
						t.Fatalf("%d frames: Check, At", n)
					}
					_, a := clock.Put(r, 4)
					_, b := clock.Drop(r, 3)
					_, c := clock.Touch(r, 3)
					_, d := clock.Pin(r, 3, 1)
					i, got, e := clock.Next(r)
					if a != api.ErrArg || b != api.ErrArg || c != api.ErrArg || d != api.ErrArg || e != api.ErrArg || i != 0 || !isZero(got) {
						t.Fatalf("%d frames: %v, %v, %v, %v, %v", n, a, b, c, d, e)
					}
				}
			}
		}
	})
}
