package clock_test

import (
	"math"
	"testing"

	"flotilla/api"
	"flotilla/clock"
)

// 14.1: New, Check, At

func TestNew(t *testing.T) {
	for n := 1; n <= 16; n++ {
		r, e := clock.New(n)
		if e != api.OK || len(r.Frames) != n || r.Hand != 0 || clock.Check(r) != api.OK {
			t.Fatalf("New(%d): %v, %v", n, r, e)
		}
		for i, f := range r.Frames {
			if f != (api.Frame{Page: -1}) {
				t.Errorf("New(%d): the frame %d is %v", n, i, f)
			}
		}
		judge{t: t}.all(r, []int{-1, 0, 15, 16}, []int{-1, 0, 1})
	}
}

func TestNewRefusesOtherNumbers(t *testing.T) {
	all := 0
	for _, n := range ints() {
		if n >= 1 && n <= 16 {
			continue
		}
		all++
		if r, e := clock.New(n); e != api.ErrArg || !isZero(r) {
			t.Errorf("New(%d): %v, %v", n, r, e)
		}
	}
	for n := -40; n < 1; n++ {
		if r, e := clock.New(n); e != api.ErrArg || !isZero(r) {
			t.Errorf("New(%d): %v, %v", n, r, e)
		}
	}
	if all < 10 {
		t.Fatal("too few numbers:", all)
	}
}

func TestNewTellsNewMemory(t *testing.T) {
	for n := 1; n <= 16; n++ {
		a, _ := clock.New(n)
		b, _ := clock.New(n)
		scribble(a)
		c, _ := clock.New(n)
		for _, r := range []api.Ring{b, c} {
			if e := clock.Check(r); e != api.OK || r.Frames[0] != empty() || r.Frames[n-1] != empty() {
				t.Fatalf("two answers of New(%d) share memory: %v", n, r)
			}
		}
	}
}

// A ring that may be, so near to one that may not that one thing of it decides.
func TestCheckLetsRingsBe(t *testing.T) {
	full := make([]api.Frame, 16)
	for i := range full {
		full[i] = usedPin(15-i, most)
	}
	none := make([]api.Frame, 16)
	for i := range none {
		none[i] = empty()
	}
	for what, r := range map[string]api.Ring{
		"one frame":                   ring(0, empty()),
		"one frame, with a page":      ring(0, usedPin(15, most)),
		"16 frames, the hand at 0":    ring(0, full...),
		"16 frames, the hand at 15":   ring(15, full...),
		"16 frames without a page":    ring(7, none...),
		"the hand at the last":        ring(1, idle(3), empty()),
		"the pages 0 and 15":          ring(0, idle(0), idle(15)),
		"no page, twice":              ring(0, empty(), idle(3), empty()),
		"no page, thrice":             ring(2, empty(), empty(), empty()),
		"pins of 0, 1, 2^20":          ring(0, pinned(1, 0), pinned(2, 1), pinned(3, most)),
		"used and not used":           ring(0, used(1), idle(2)),
		"used and pinned":             ring(0, usedPin(1, 1), usedPin(2, most)),
		"pages that don't rise":       ring(1, idle(9), idle(0), idle(4)),
		"as many pins as others have": ring(1, pinned(9, 4), pinned(0, 4), pinned(4, 4)),
	} {
		if e := clock.Check(r); e != api.OK {
			t.Errorf("%s: Check(%v): %v", what, r, e)
		}
		judge{t: t}.check(r)
	}
}

func TestCheckRefusesRings(t *testing.T) {
	for what, r := range bad() {
		if e := clock.Check(r); e != api.ErrArg {
			t.Errorf("%s: Check(%v): %v", what, r, e)
		}
		judge{t: t}.check(r)
	}
}

// One thing is changed at a time, from a ring that may be, at each of its frames.
func TestCheckAtEachFrame(t *testing.T) {
	for n := 1; n <= 16; n++ {
		for i := range n {
			base := make([]api.Frame, n)
			for k := range base {
				base[k] = idle(k)
			}
			try := func(f api.Frame, want api.Errno) {
				t.Helper()
				r := having(ring(n-1, base...), i, f)
				if e := clock.Check(r); e != want {
					t.Fatalf("Check(%v): %v, not %v", r, e, want)
				}
			}
			for _, page := range ints() {
				switch {
				case page < -1, page > 15, page >= 0 && page < n && page != i:
					try(idle(page), api.ErrArg)
				default:
					try(idle(page), api.OK)
				}
			}
			for _, pins := range ints() {
				if pins < 0 || pins > most {
					try(pinned(i, pins), api.ErrArg)
				} else {
					try(usedPin(i, pins), api.OK)
				}
				if pins != 0 {
					try(pinned(-1, pins), api.ErrArg)
				}
			}
			try(used(-1), api.ErrArg)
			try(empty(), api.OK)
		}
	}
}

func TestCheckAtEachHand(t *testing.T) {
	for n := 1; n <= 16; n++ {
		r, _ := clock.New(n)
		for _, hand := range append(ints(), n-1, n, n+1, -n) {
			r.Hand = hand
			want := api.OK
			if hand < 0 || hand >= n {
				want = api.ErrArg
			}
			if e := clock.Check(r); e != want {
				t.Errorf("%d frames, the hand at %d: %v, not %v", n, hand, e, want)
			}
		}
	}
}

// Each page may be at every two frames but not at both.
func TestCheckFindsPagesTwice(t *testing.T) {
	for page := range 16 {
		for i := range 16 {
			for k := range i {
				r, _ := clock.New(16)
				r.Frames[i].Page = page
				if e := clock.Check(r); e != api.OK {
					t.Fatalf("Check(%v): %v", r, e)
				}
				r.Frames[k].Page = page
				if e := clock.Check(r); e != api.ErrArg {
					t.Fatalf("Check(%v): %v", r, e)
				}
			}
		}
	}
}

func TestAt(t *testing.T) {
	r := ring(1, used(4), empty(), pinned(0, 3), idle(15), empty())
	want := map[int]int{4: 0, 0: 2, 15: 3}
	for page := -20; page < 40; page++ {
		at, is := want[page]
		if !is {
			at = -1
		}
		if i := clock.At(r, page); i != at {
			t.Errorf("At(%d): %d, not %d", page, i, at)
		}
	}
	for _, page := range ints() {
		judge{t: t}.at(r, page)
	}
}

// -1 is no page: it is nowhere, also where a frame has none.
func TestAtMinusOne(t *testing.T) {
	for n := 1; n <= 16; n++ {
		r, _ := clock.New(n)
		for _, page := range []int{-1, -2, math.MinInt} {
			if i := clock.At(r, page); i != -1 {
				t.Errorf("%d frames: At(%d): %d", n, page, i)
			}
		}
	}
	if i := clock.At(ring(0, idle(3)), -1); i != -1 {
		t.Errorf("At(-1): %d", i)
	}
}

func TestAtOfRingsThatMayNotBe(t *testing.T) {
	for what, r := range bad() {
		for _, page := range append(ints(), 3, 4) {
			if i := clock.At(r, page); i != -1 {
				t.Errorf("%s: At(%v, %d): %d", what, r, page, i)
			}
		}
	}
}
