package clock_test

import (
	"slices"
	"testing"

	"flotilla/api"
	"flotilla/clock"
)

// the chapter's example

func TestExample(t *testing.T) {
	i, r, e := clock.Next(ring(0, used(4), idle(7)))
	if i != 1 || e != api.OK || !same(r, ring(0, idle(4), idle(7))) {
		t.Fatalf("%d, %v, %v", i, r, e)
	}
}

// 14.3: Next

func TestNext(t *testing.T) {
	for _, c := range []struct {
		what string
		from api.Ring
		told int
		then api.Ring
	}{
		{"one without a page", ring(0, empty()), 0, ring(0, empty())},
		{"one with a page", ring(0, idle(3)), 0, ring(0, idle(3))},
		{"one that is used", ring(0, used(3)), 0, ring(0, idle(3))},
		{"none has a page", ring(1, empty(), empty(), empty()), 1, ring(2, empty(), empty(), empty())},
		{"0 behind the last", ring(2, empty(), empty(), empty()), 2, ring(0, empty(), empty(), empty())},
		{"the one at the hand", ring(1, idle(1), idle(2), idle(3)), 1, ring(2, idle(1), idle(2), idle(3))},
		{"one without a page, a used one ahead", ring(0, used(1), empty(), idle(3)), 1, ring(2, idle(1), empty(), idle(3))},
		{"one without a page, an idle one ahead", ring(2, used(1), empty(), idle(3)), 2, ring(0, used(1), empty(), idle(3))},
		{"one without a page, a pinned one ahead", ring(0, pinned(1, 2), empty()), 1, ring(0, pinned(1, 2), empty())},
		{"a pinned one at the hand", ring(0, pinned(1, 1), idle(2), idle(3)), 1, ring(2, pinned(1, 1), idle(2), idle(3))},
		{"a pinned one stays used", ring(0, usedPin(1, 1), used(2), idle(3)), 2, ring(0, usedPin(1, 1), idle(2), idle(3))},
		{"behind the one that is told they stay used", ring(0, idle(1), used(2), used(3)), 0, ring(1, idle(1), used(2), used(3))},
		{"ahead of the hand they stay used", ring(2, used(1), used(2), idle(3)), 2, ring(0, used(1), used(2), idle(3))},
		{"round, by used ones", ring(2, used(1), idle(2), used(3)), 1, ring(2, idle(1), idle(2), idle(3))},
		{"all used", ring(0, used(1), used(2), used(3)), 0, ring(1, idle(1), idle(2), idle(3))},
		{"all used, the hand at 1", ring(1, used(1), used(2), used(3)), 1, ring(2, idle(1), idle(2), idle(3))},
		{"all used, the hand at the last", ring(2, used(1), used(2), used(3)), 2, ring(0, idle(1), idle(2), idle(3))},
		{"all used or pinned", ring(1, used(1), usedPin(2, 1), used(3)), 2, ring(0, idle(1), usedPin(2, 1), idle(3))},
		{"all pinned but one, which is used", ring(2, usedPin(1, most), used(2), pinned(3, 1)), 1, ring(2, usedPin(1, most), idle(2), pinned(3, 1))},
		{"all pinned but one", ring(1, usedPin(1, most), usedPin(2, 1), idle(3)), 2, ring(0, usedPin(1, most), usedPin(2, 1), idle(3))},
	} {
		i, r, e := judge{t: t}.next(c.from)
		if i != c.told || e != api.OK || !same(r, c.then) {
			t.Errorf("%s: Next(%v): %d, %v, %v, not %d, %v", c.what, c.from, i, r, e, c.told, c.then)
		}
	}
}

func TestNextWithAllPinned(t *testing.T) {
	for n := 1; n <= 16; n++ {
		for hand := range n {
			r := ring(hand)
			for i := range n {
				r.Frames = append(r.Frames, api.Frame{Page: i, Used: i%2 == 0, Pins: 1 + i*(most-1)/15})
			}
			if i, got, e := clock.Next(r); i != 0 || !isZero(got) || e != api.ErrBusy {
				t.Fatalf("Next(%v): %d, %v, %v", r, i, got, e)
			}
			judge{t: t}.next(r)
			for i := range n {
				one := having(r, i, used(i))
				if told, _, e := (judge{t: t}).next(one); told != i || e != api.OK {
					t.Fatalf("Next(%v): %d, %v", one, told, e)
				}
				one = having(r, i, empty())
				if told, got, e := (judge{t: t}).next(one); told != i || e != api.OK || got.Hand != (i+1)%n {
					t.Fatalf("Next(%v): %d, %v, %v", one, told, got, e)
				}
			}
		}
	}
}

func TestNextOfRingsThatMayNotBe(t *testing.T) {
	for what, r := range bad() {
		if i, got, e := clock.Next(r); i != 0 || !isZero(got) || e != api.ErrArg {
			t.Errorf("%s: Next(%v): %d, %v, %v", what, r, i, got, e)
		}
	}
}

// What may not be comes ahead of all being pinned.
func TestNextOfPinnedFramesThatMayNotBe(t *testing.T) {
	for _, r := range []api.Ring{ring(0, pinned(3, 1), pinned(3, 1)), ring(2, pinned(3, 1), pinned(4, 1)), ring(0, pinned(3, most+1)), ring(0, pinned(-1, 1)), ring(0, pinned(16, 1))} {
		if i, got, e := clock.Next(r); i != 0 || !isZero(got) || e != api.ErrArg {
			t.Errorf("Next(%v): %d, %v, %v", r, i, got, e)
		}
	}
}

// A page that is touched again and again stays; the others go.
func TestNextGivesAnotherTurn(t *testing.T) {
	j := judge{t: t}
	r := ring(0, used(1), used(2), used(3), used(4))
	for range 20 {
		var i int
		i, r, _ = j.next(r)
		if r.Frames[i].Page == 2 {
			t.Fatal("a page that was touched is told:", r)
		}
		r, _ = j.touch(r, 2)
	}
}

// 14.4: what follows

// looks is how many frames that aren't pinned a call looked at, from one ring to the next.
func looks(from api.Ring, told int) int {
	order := free(from)
	n := slices.Index(order, told) + 1
	if from.Frames[told].Used {
		n += len(order) // it was passed by once
	}
	return n
}

// askOften asks so often as there are frames that aren't pinned, and tells which were told.
func askOften(j judge, r api.Ring, often int) []int {
	j.t.Helper()
	var all []int
	for range often {
		i, then, e := j.next(r)
		if e != api.OK || i < 0 || i >= len(r.Frames) || r.Frames[i].Pins > 0 {
			j.t.Fatalf("Next(%v): %d, %v", r, i, e)
		}
		all = append(all, i)
		r = then
	}
	return all
}

// follows asks for all of 14.4, of one ring.
func follows(j judge, r api.Ring) {
	j.t.Helper()
	order := free(r)
	anyUsed := slices.ContainsFunc(order, func(i int) bool { return r.Frames[i].Used })
	allUsed := !slices.ContainsFunc(order, func(i int) bool { return !r.Frames[i].Used })
	all := askOften(j, r, len(order))
	if (!anyUsed || allUsed) && !slices.Equal(all, order) {
		j.t.Fatalf("of %v, %d are told: %v", r, len(order), all)
	}
	come := map[int]bool{}
	for n, now := 0, r; n < 2*len(order); {
		i, then, _ := clock.Next(now)
		if n += looks(now, i); n <= 2*len(order) {
			come[i] = true
		}
		now = then
	}
	if len(come) != len(order) {
		j.t.Fatalf("of %v, within twice as many looks: %v", r, come)
	}
}

// everyUse goes through every ring of n frames of which each is one of some kinds, with the hand at each place.
func everyUse(n int, kinds []func(page int) api.Frame, do func(r api.Ring)) {
	all := 1
	for range n {
		all *= len(kinds)
	}
	for code := range all {
		frames := make([]api.Frame, n)
		for i := range n {
			frames[i] = kinds[code%len(kinds)](n - 1 - i)
			code /= len(kinds)
		}
		for hand := range n {
			do(ring(hand, frames...))
		}
	}
}

func kinds() []func(page int) api.Frame {
	return []func(page int) api.Frame{
		idle,
		used,
		func(int) api.Frame { return empty() },
		func(page int) api.Frame { return pinned(page, 1) },
		func(page int) api.Frame { return usedPin(page, most) },
	}
}

func TestWhoAsksIsToldEachOnce(t *testing.T) {
	ends(t, "who asks often", func() {
		for n := 1; n <= 5; n++ {
			everyUse(n, kinds(), func(r api.Ring) { follows(judge{t: t}, r) })
		}
		for n := 6; n <= 9; n++ {
			everyUse(n, kinds()[:2], func(r api.Ring) { follows(judge{t: t}, r) })
		}
	})
}

func TestWhoAsksIsToldEachOnceOfManyFrames(t *testing.T) {
	for n := 10; n <= 16; n++ {
		for hand := range n {
			for each := 1; each <= n; each++ {
				for _, k := range kinds() {
					r := ring(hand)
					for i := range n {
						if i%each == 0 {
							r.Frames = append(r.Frames, k(i))
						} else {
							r.Frames = append(r.Frames, idle(i))
						}
					}
					follows(judge{t: t}, r)
				}
			}
		}
	}
}
