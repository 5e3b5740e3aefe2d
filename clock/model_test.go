package clock_test

import (
	"math"
	"slices"
	"testing"
	"time"

	"flotilla/api"
	"flotilla/clock"
)

const most = 1 << 20 // the most pins of a frame

func empty() api.Frame              { return api.Frame{Page: -1} }
func idle(page int) api.Frame       { return api.Frame{Page: page} }
func used(page int) api.Frame       { return api.Frame{Page: page, Used: true} }
func pinned(page, n int) api.Frame  { return api.Frame{Page: page, Pins: n} }
func usedPin(page, n int) api.Frame { return api.Frame{Page: page, Used: true, Pins: n} }

func ring(hand int, frames ...api.Frame) api.Ring { return api.Ring{Frames: frames, Hand: hand} }

// same holds rings against each other; nil and empty lists are one.
func same(a, b api.Ring) bool { return a.Hand == b.Hand && slices.Equal(a.Frames, b.Frames) }

// isZero asks for the zero ring, its list nil.
func isZero(r api.Ring) bool { return r.Frames == nil && r.Hand == 0 }

// turned is the numbers of all frames, from the hand on.
func turned(r api.Ring) []int {
	var all []int
	for i := range r.Frames {
		all = append(all, (r.Hand+i)%len(r.Frames))
	}
	return all
}

// free is the numbers of the frames that aren't pinned, from the hand on.
func free(r api.Ring) []int {
	return slices.DeleteFunc(turned(r), func(i int) bool { return r.Frames[i].Pins > 0 })
}

// words is the calls by the document's words.
type words struct{}

func (words) may(r api.Ring) bool {
	if len(r.Frames) < 1 || len(r.Frames) > 16 || r.Hand < 0 || r.Hand > len(r.Frames)-1 {
		return false
	}
	for i, f := range r.Frames {
		switch {
		case f.Page < -1, f.Page > 15, f.Pins < 0, f.Pins > most:
			return false
		case f.Page == -1 && (f.Used || f.Pins > 0):
			return false
		case f.Page != -1 && slices.ContainsFunc(r.Frames[:i], func(g api.Frame) bool { return g.Page == f.Page }):
			return false
		}
	}
	return true
}

func (w words) check(r api.Ring) api.Errno {
	if w.may(r) {
		return api.OK
	}
	return api.ErrArg
}

func (w words) at(r api.Ring, page int) int {
	if page < 0 || !w.may(r) {
		return -1
	}
	return slices.IndexFunc(r.Frames, func(f api.Frame) bool { return f.Page == page })
}

// having is a ring in memory of its own, one frame of which is another.
func having(r api.Ring, at int, f api.Frame) api.Ring {
	r.Frames = slices.Clone(r.Frames)
	r.Frames[at] = f
	return r
}

func (w words) put(r api.Ring, page int) (api.Ring, api.Errno) {
	at := slices.IndexFunc(r.Frames, func(f api.Frame) bool { return f.Page == -1 })
	switch {
	case !w.may(r), page < 0, page > 15:
		return api.Ring{}, api.ErrArg
	case w.at(r, page) >= 0:
		return api.Ring{}, api.ErrTwice
	case at < 0:
		return api.Ring{}, api.ErrBusy
	}
	return having(r, at, used(page)), api.OK
}

func (w words) drop(r api.Ring, page int) (api.Ring, api.Errno) {
	at := w.at(r, page)
	switch {
	case !w.may(r):
		return api.Ring{}, api.ErrArg
	case at < 0:
		return api.Ring{}, api.ErrNone
	case r.Frames[at].Pins > 0:
		return api.Ring{}, api.ErrState
	}
	return having(r, at, empty()), api.OK
}

func (w words) touch(r api.Ring, page int) (api.Ring, api.Errno) {
	at := w.at(r, page)
	switch {
	case !w.may(r):
		return api.Ring{}, api.ErrArg
	case at < 0:
		return api.Ring{}, api.ErrNone
	}
	return having(r, at, usedPin(page, r.Frames[at].Pins)), api.OK
}

func (w words) pin(r api.Ring, page, n int) (api.Ring, api.Errno) {
	at := w.at(r, page)
	switch {
	case !w.may(r):
		return api.Ring{}, api.ErrArg
	case at < 0:
		return api.Ring{}, api.ErrNone
	case n < -most, n > most, r.Frames[at].Pins+n < 0, r.Frames[at].Pins+n > most:
		return api.Ring{}, api.ErrState
	}
	return having(r, at, api.Frame{Page: page, Used: r.Frames[at].Used, Pins: r.Frames[at].Pins + n}), api.OK
}

// next tells without going round: the first that is neither pinned nor used, or, if there is none, the first that isn't pinned, by when none of those is used any more.
func (w words) next(r api.Ring) (int, api.Ring, api.Errno) {
	switch {
	case !w.may(r):
		return 0, api.Ring{}, api.ErrArg
	case len(free(r)) == 0:
		return 0, api.Ring{}, api.ErrBusy
	}
	order := free(r)
	k := slices.IndexFunc(order, func(i int) bool { return !r.Frames[i].Used })
	told, passed := order[0], order
	if k >= 0 {
		told, passed = order[k], order[:k]
	}
	r.Frames = slices.Clone(r.Frames)
	for _, i := range passed {
		r.Frames[i].Used = false
	}
	r.Hand = told + 1
	if r.Hand == len(r.Frames) {
		r.Hand = 0
	}
	return told, r, api.OK
}

// judge calls, and holds what is told against the document's words.
type judge struct {
	t     testing.TB
	words words
}

// lent is a ring to hand in, in the midst of greater memory, and that memory.
func lent(r api.Ring) (api.Ring, []api.Frame) {
	n := len(r.Frames)
	all := make([]api.Frame, n+5)
	for i := range all {
		all[i] = api.Frame{Page: 100 + i, Used: true, Pins: -i}
	}
	copy(all[2:], r.Frames)
	return api.Ring{Frames: all[2 : 2+n], Hand: r.Hand}, all
}

// scribble writes over all the memory of a ring, with the room behind it.
func scribble(r api.Ring) {
	l := r.Frames[:cap(r.Frames)]
	for i := range l {
		l[i] = api.Frame{Page: -77, Used: !l[i].Used, Pins: -77}
	}
}

// told is what is told of a ring that is handed in: its memory must stay as it was, behind the call and behind writing over what was told; and what is told must stay as it was, when what was handed in is written over.
func (j judge) told(what string, r api.Ring, call func(api.Ring) api.Ring) api.Ring {
	j.t.Helper()
	in, memory := lent(r)
	was := slices.Clone(memory)
	told := call(in)
	if !slices.Equal(memory, was) || in.Hand != r.Hand {
		j.t.Fatalf("%s of %v changed what was handed in: %v", what, r, memory)
	}
	again := call(in)
	if !same(told, again) {
		j.t.Fatalf("%s of %v: %v, and again: %v", what, r, told, again)
	}
	scribble(again)
	if !slices.Equal(memory, was) {
		j.t.Fatalf("%s of %v tells what was handed in: %v", what, r, memory)
	}
	mine := api.Ring{Frames: slices.Clone(told.Frames), Hand: told.Hand}
	scribble(api.Ring{Frames: memory})
	if !same(told, mine) {
		j.t.Fatalf("%s of %v: two answers, or an answer and what was handed in, share memory", what, r)
	}
	return told
}

// ring holds a ring and an error against what they must be.
func (j judge) ring(what string, r, got api.Ring, e api.Errno, want api.Ring, f api.Errno) (api.Ring, api.Errno) {
	j.t.Helper()
	if e != f || !same(got, want) {
		j.t.Fatalf("%s of %v: %v, %v, not %v, %v", what, r, got, e, want, f)
	}
	if e != api.OK && !isZero(got) {
		j.t.Fatalf("%s of %v: %v, and beside it %v", what, r, e, got)
	}
	if e == api.OK && clock.Check(got) != api.OK {
		j.t.Fatalf("%s of %v tells a ring that may not be: %v", what, r, got)
	}
	return want, f
}

func (j judge) check(r api.Ring) api.Errno {
	j.t.Helper()
	want := j.words.check(r)
	j.told("Check", r, func(in api.Ring) api.Ring {
		if e := clock.Check(in); e != want {
			j.t.Fatalf("Check(%v): %v, not %v", r, e, want)
		}
		return api.Ring{}
	})
	return want
}

func (j judge) at(r api.Ring, page int) int {
	j.t.Helper()
	want := j.words.at(r, page)
	j.told("At", r, func(in api.Ring) api.Ring {
		if i := clock.At(in, page); i != want {
			j.t.Fatalf("At(%v, %d): %d, not %d", r, page, i, want)
		}
		return api.Ring{}
	})
	return want
}

func (j judge) put(r api.Ring, page int) (api.Ring, api.Errno) {
	j.t.Helper()
	var e api.Errno
	got := j.told("Put", r, func(in api.Ring) (got api.Ring) { got, e = clock.Put(in, page); return got })
	want, f := j.words.put(r, page)
	return j.ring("Put", r, got, e, want, f)
}

func (j judge) drop(r api.Ring, page int) (api.Ring, api.Errno) {
	j.t.Helper()
	var e api.Errno
	got := j.told("Drop", r, func(in api.Ring) (got api.Ring) { got, e = clock.Drop(in, page); return got })
	want, f := j.words.drop(r, page)
	return j.ring("Drop", r, got, e, want, f)
}

func (j judge) touch(r api.Ring, page int) (api.Ring, api.Errno) {
	j.t.Helper()
	var e api.Errno
	got := j.told("Touch", r, func(in api.Ring) (got api.Ring) { got, e = clock.Touch(in, page); return got })
	want, f := j.words.touch(r, page)
	return j.ring("Touch", r, got, e, want, f)
}

func (j judge) pin(r api.Ring, page, n int) (api.Ring, api.Errno) {
	j.t.Helper()
	var e api.Errno
	got := j.told("Pin", r, func(in api.Ring) (got api.Ring) { got, e = clock.Pin(in, page, n); return got })
	want, f := j.words.pin(r, page, n)
	return j.ring("Pin", r, got, e, want, f)
}

func (j judge) next(r api.Ring) (int, api.Ring, api.Errno) {
	j.t.Helper()
	var i int
	var e api.Errno
	got := j.told("Next", r, func(in api.Ring) (got api.Ring) { i, got, e = clock.Next(in); return got })
	told, want, f := j.words.next(r)
	if i != told {
		j.t.Fatalf("Next(%v): %d, %v, not %d, %v", r, i, e, told, f)
	}
	j.ring("Next", r, got, e, want, f)
	return told, want, f
}

// all does every call to a ring, at some pages and numbers of pins.
func (j judge) all(r api.Ring, pages, pins []int) {
	j.t.Helper()
	j.check(r)
	for _, page := range pages {
		j.at(r, page)
		j.put(r, page)
		j.drop(r, page)
		j.touch(r, page)
		for _, n := range pins {
			j.pin(r, page, n)
		}
	}
	j.next(r)
}

// ints are numbers at which something might go wrong.
func ints() []int {
	return []int{math.MinInt, math.MinInt + 1, math.MinInt32 - 1, math.MinInt32, -most - 1, -most, -most + 1, -257, -256, -17, -16, -3, -2, -1, 0, 1, 2, 14, 15, 16, 17, 18, 31, 32, 255, 256, 257,
		most - 1, most, most + 1, math.MaxInt32, math.MaxInt32 + 1, 1 << 32, 1<<32 + 1, math.MaxInt - most, math.MaxInt - 1, math.MaxInt}
}

// bad are rings that may not be, each for one thing alone.
func bad() map[string]api.Ring {
	full := make([]api.Frame, 17)
	for i := range full {
		full[i] = empty()
	}
	return map[string]api.Ring{
		"nothing":                        {},
		"no frames":                      {Frames: []api.Frame{}},
		"no frames, the hand at 1":       {Hand: 1},
		"no frames, the hand at -1":      {Hand: -1},
		"17 frames":                      {Frames: full},
		"17 frames, the hand at 16":      {Frames: full, Hand: 16},
		"the hand below 0":               ring(-1, idle(3), empty()),
		"the hand far below 0":           ring(math.MinInt, idle(3), empty()),
		"the hand behind the last":       ring(2, idle(3), empty()),
		"the hand far behind":            ring(math.MaxInt, idle(3), empty()),
		"a page of -2":                   ring(0, idle(3), idle(-2)),
		"the least page":                 ring(0, idle(3), idle(math.MinInt)),
		"a page of 16":                   ring(0, idle(16), idle(3)),
		"the greatest page":              ring(0, idle(math.MaxInt), idle(3)),
		"a page of 256":                  ring(0, idle(256), empty()),
		"a page twice":                   ring(0, idle(3), idle(3)),
		"the page 0 twice":               ring(0, idle(0), empty(), idle(0)),
		"the page 15 twice, once used":   ring(1, used(15), idle(2), idle(15)),
		"a page twice, once pinned":      ring(1, pinned(3, 1), idle(2), idle(3)),
		"pins of -1":                     ring(0, pinned(3, -1), idle(4)),
		"the fewest pins":                ring(0, idle(4), pinned(3, math.MinInt)),
		"pins of 2^20 + 1":               ring(0, idle(4), pinned(3, most+1)),
		"the most pins":                  ring(0, pinned(3, math.MaxInt), idle(4)),
		"pins of 2^32":                   ring(0, pinned(3, 1<<32), idle(4)),
		"no page, used":                  ring(0, idle(3), used(-1)),
		"no page, pinned":                ring(0, idle(3), pinned(-1, 1)),
		"no page, pins of -1":            ring(0, idle(3), pinned(-1, -1)),
		"no page, pins of 2^20":          ring(0, pinned(-1, most), idle(3)),
		"no page, used, pinned":          ring(0, usedPin(-1, 1), idle(3)),
		"one alone without a page, used": ring(0, used(-1)),
	}
}

// ends asks that something comes to its end, without a panic.
func ends(t *testing.T, what string, do func()) {
	t.Helper()
	over := make(chan any, 1)
	go func() {
		defer func() { over <- recover() }()
		do()
	}()
	select {
	case p := <-over:
		if p != nil {
			t.Fatalf("%s: a panic: %v", what, p)
		}
	case <-time.After(5 * time.Minute):
		t.Fatalf("%s: no end", what)
	}
}
