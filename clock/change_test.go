package clock_test

import (
	"math"
	"testing"

	"flotilla/api"
	"flotilla/clock"
)

// 14.2: Put, Drop, Touch, Pin

// want asks that a call tells one ring, or one error.
func want(t *testing.T, what string, r api.Ring, e api.Errno, ring api.Ring, f api.Errno) {
	t.Helper()
	if e != f || !same(r, ring) || f != api.OK && !isZero(r) {
		t.Errorf("%s: %v, %v, not %v, %v", what, r, e, ring, f)
	}
}

func TestPut(t *testing.T) {
	j := judge{t: t}
	r, e := j.put(ring(1, idle(4), empty(), empty()), 7)
	want(t, "Put", r, e, ring(1, idle(4), used(7), empty()), api.OK)
	r, e = j.put(r, 0)
	want(t, "Put", r, e, ring(1, idle(4), used(7), used(0)), api.OK)
	r, e = j.put(ring(2, empty(), usedPin(3, most), empty()), 15)
	want(t, "Put", r, e, ring(2, used(15), usedPin(3, most), empty()), api.OK)
}

func TestPutAnswers(t *testing.T) {
	j := judge{t: t}
	none := api.Ring{}
	room := ring(0, idle(4), empty())
	for _, page := range []int{-1, -2, 16, 17, 256, 1 << 32, math.MinInt, math.MaxInt} {
		r, e := j.put(room, page)
		want(t, "no such page", r, e, none, api.ErrArg)
		r, e = j.put(ring(0, idle(4)), page)
		want(t, "no such page, and no frame", r, e, none, api.ErrArg)
	}
	r, e := j.put(room, 4)
	want(t, "a page that is there", r, e, none, api.ErrTwice)
	r, e = j.put(ring(0, idle(4)), 4)
	want(t, "a page that is there, and no frame", r, e, none, api.ErrTwice)
	r, e = j.put(ring(0, idle(4), pinned(15, 1)), 5)
	want(t, "no frame", r, e, none, api.ErrBusy)
	for page := range 16 {
		r, e = j.put(room, page)
		if page != 4 {
			want(t, "a page", r, e, ring(0, idle(4), used(page)), api.OK)
		}
	}
}

// Frames are filled from the first one on, wherever the hand stands.
func TestPutFillsTheFirst(t *testing.T) {
	j := judge{t: t}
	for n := 1; n <= 16; n++ {
		for hand := range n {
			r, _ := clock.New(n)
			r.Hand = hand
			for i := range n {
				var e api.Errno
				r, e = j.put(r, 15-i)
				if e != api.OK || r.Hand != hand || clock.At(r, 15-i) != i {
					t.Fatalf("Put: %v, %v", r, e)
				}
			}
			if _, e := j.put(r, 15); e != api.ErrTwice {
				t.Fatal("Put of a page that is there:", e)
			}
			if n < 16 {
				if _, e := j.put(r, 0); e != api.ErrBusy {
					t.Fatal("Put, and no frame:", e)
				}
			}
		}
	}
}

func TestDrop(t *testing.T) {
	j := judge{t: t}
	full := ring(2, used(4), pinned(7, 1), idle(0), usedPin(15, most))
	r, e := j.drop(full, 4)
	want(t, "Drop", r, e, ring(2, empty(), pinned(7, 1), idle(0), usedPin(15, most)), api.OK)
	r, e = j.drop(full, 0)
	want(t, "Drop", r, e, ring(2, used(4), pinned(7, 1), empty(), usedPin(15, most)), api.OK)
	for _, page := range []int{7, 15} {
		r, e = j.drop(full, page)
		want(t, "a pinned page", r, e, api.Ring{}, api.ErrState)
	}
	for _, page := range []int{1, 16, -1, -2, math.MaxInt, math.MinInt} {
		r, e = j.drop(full, page)
		want(t, "a page that isn't there", r, e, api.Ring{}, api.ErrNone)
	}
	r, e = j.drop(ring(0, empty(), used(3)), -1)
	want(t, "no page", r, e, api.Ring{}, api.ErrNone)
}

func TestTouch(t *testing.T) {
	j := judge{t: t}
	full := ring(2, used(4), pinned(7, 1), idle(0), usedPin(15, most), empty())
	for page, is := range map[int]api.Ring{
		4:  full,
		7:  ring(2, used(4), usedPin(7, 1), idle(0), usedPin(15, most), empty()),
		0:  ring(2, used(4), pinned(7, 1), used(0), usedPin(15, most), empty()),
		15: full,
	} {
		r, e := j.touch(full, page)
		want(t, "Touch", r, e, is, api.OK)
	}
	for _, page := range []int{1, 16, -1, -2, math.MaxInt, math.MinInt} {
		r, e := j.touch(full, page)
		want(t, "a page that isn't there", r, e, api.Ring{}, api.ErrNone)
	}
}

func TestPin(t *testing.T) {
	j := judge{t: t}
	full := ring(1, used(4), pinned(7, 5), empty())
	r, e := j.pin(full, 4, 3)
	want(t, "three more", r, e, ring(1, usedPin(4, 3), pinned(7, 5), empty()), api.OK)
	r, e = j.pin(full, 7, -2)
	want(t, "two fewer", r, e, ring(1, used(4), pinned(7, 3), empty()), api.OK)
	r, e = j.pin(full, 7, 0)
	want(t, "no more", r, e, full, api.OK)
	r, e = j.pin(full, 7, -5)
	want(t, "all", r, e, ring(1, used(4), idle(7), empty()), api.OK)
	r, e = j.pin(full, 7, -6)
	want(t, "one too many", r, e, api.Ring{}, api.ErrState)
	for _, n := range ints() {
		for _, page := range []int{1, 16, -1, -2, math.MaxInt, math.MinInt} {
			r, e = j.pin(full, page, n)
			want(t, "a page that isn't there", r, e, api.Ring{}, api.ErrNone)
		}
	}
}

// From each number of pins to 0, to 2^20, and one past both, also where the sum would wrap round.
func TestPinAtItsEnds(t *testing.T) {
	j := judge{t: t}
	for _, pins := range []int{0, 1, 2, 1000, most - 1, most} {
		from := ring(0, pinned(3, pins))
		for _, c := range []struct {
			n, pins int
			e       api.Errno
		}{
			{-pins, 0, api.OK}, {-pins - 1, 0, api.ErrState}, {-pins - 2, 0, api.ErrState},
			{most - pins, most, api.OK}, {most - pins + 1, 0, api.ErrState}, {most - pins + 2, 0, api.ErrState},
			{0, pins, api.OK},
			{math.MaxInt, 0, api.ErrState}, {math.MaxInt - pins, 0, api.ErrState}, {math.MaxInt - pins + most, 0, api.ErrState}, {math.MaxInt - most, 0, api.ErrState},
			{math.MinInt, 0, api.ErrState}, {math.MinInt + pins, 0, api.ErrState}, {math.MinInt + most, 0, api.ErrState}, {math.MinInt + 1, 0, api.ErrState},
			{1 << 32, 0, api.ErrState}, {-1 << 32, 0, api.ErrState},
		} {
			r, e := j.pin(from, 3, c.n)
			if c.e != api.OK {
				want(t, "Pin", r, e, api.Ring{}, c.e)
			} else {
				want(t, "Pin", r, e, ring(0, pinned(3, c.pins)), api.OK)
			}
		}
	}
}

func TestPinOneByOne(t *testing.T) {
	r := ring(0, used(3))
	for i := range 300 {
		r, _ = judge{t: t}.pin(r, 3, 1)
		if r.Frames[0].Pins != i+1 {
			t.Fatal(r)
		}
	}
	for range 300 {
		r, _ = judge{t: t}.pin(r, 3, -1)
	}
	want(t, "as many back", r, api.OK, ring(0, used(3)), api.OK)
	if _, e := (judge{t: t}).pin(r, 3, -1); e != api.ErrState {
		t.Fatal("one fewer than none:", e)
	}
}

// ErrArg of a ring that may not be comes first, whatever else is asked.
func TestRingsThatMayNotBeAreRefused(t *testing.T) {
	for what, r := range bad() {
		for _, page := range append(ints(), 3, 4) {
			got, e := clock.Put(r, page)
			want(t, what+": Put", got, e, api.Ring{}, api.ErrArg)
			got, e = clock.Drop(r, page)
			want(t, what+": Drop", got, e, api.Ring{}, api.ErrArg)
			got, e = clock.Touch(r, page)
			want(t, what+": Touch", got, e, api.Ring{}, api.ErrArg)
			for _, n := range []int{math.MinInt, -1, 0, 1, most + 1, math.MaxInt} {
				got, e = clock.Pin(r, page, n)
				want(t, what+": Pin", got, e, api.Ring{}, api.ErrArg)
			}
		}
		judge{t: t}.all(r, []int{-1, 0, 3, 4, 16}, []int{-1, 0, 1})
	}
}

// Of two rings that come from one, neither is the other's.
func TestRingsThatComeFromOne(t *testing.T) {
	from := ring(0, used(4), idle(7), empty())
	calls := map[string]func() (api.Ring, api.Errno){
		"Put":   func() (api.Ring, api.Errno) { return clock.Put(from, 9) },
		"Drop":  func() (api.Ring, api.Errno) { return clock.Drop(from, 4) },
		"Touch": func() (api.Ring, api.Errno) { return clock.Touch(from, 4) },
		"Pin":   func() (api.Ring, api.Errno) { return clock.Pin(from, 7, 0) },
		"Next":  func() (api.Ring, api.Errno) { _, r, e := clock.Next(from); return r, e },
	}
	for what, call := range calls {
		first, e := call()
		second, f := call()
		if e != api.OK || f != api.OK || !same(first, second) {
			t.Fatalf("%s: %v, %v, and again %v, %v", what, first, e, second, f)
		}
		scribble(first)
		if third, _ := call(); !same(second, third) {
			t.Errorf("%s: what was told is told again: %v, %v", what, second, third)
		}
		first.Frames = append(first.Frames, idle(1))
		if !same(from, ring(0, used(4), idle(7), empty())) {
			t.Fatalf("%s: what was handed in is told: %v", what, from)
		}
	}
}
