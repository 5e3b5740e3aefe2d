package stable_test

import (
	"math"
	"testing"

	"flotilla/api"
)

// 8.2

func TestExample(t *testing.T) {
	d := made(t, 128)
	b := make([]byte, 64)
	for i := range b {
		b[i] = byte(200 - i)
	}
	want(t, "Start", d.Start(0, 64, b), api.OK)
	if x, e := d.Read(64, 64); e != api.OK || string(x) != string(make([]byte, 64)) {
		t.Fatalf("ahead of Finish: %v, %v", x, e)
	}
	want(t, "Finish", d.Finish(0), api.OK)
	if x, e := d.Read(64, 64); e != api.OK || string(x) != string(b) {
		t.Fatalf("behind Finish: %v, %v", x, e)
	}
	if x, e := d.Read(0, 64); e != api.OK || string(x) != string(make([]byte, 64)) {
		t.Fatalf("ahead of it: %v, %v", x, e)
	}
}

func TestStartHands(t *testing.T) {
	for hand := -1; hand <= 8; hand++ {
		d, m := made(t, 256), newModel(256)
		e := d.Start(hand, 64, sectors(1, 2))
		if hand < 0 || hand > 7 {
			want(t, "Start", e, api.ErrArg)
		} else {
			want(t, "Start", e, api.OK)
			m.under[hand] = flight{64, string(sectors(1, 2))}
		}
		m.same(t, d, "behind Start")
	}
	for _, hand := range []int{math.MinInt, math.MinInt + 1, -8, 9, 64, 256, 1 << 32, math.MaxInt} {
		d := made(t, 256)
		want(t, "Start", d.Start(hand, 64, sectors(1, 2)), api.ErrArg)
		newModel(256).same(t, d, "behind Start of no hand")
	}
}

func TestStartAllHands(t *testing.T) {
	d, m := made(t, 65536), newModel(65536)
	for hand := range 8 {
		b := fill(64*(hand+1), byte(hand+1))
		want(t, "Start", d.Start(hand, hand*4096, b), m.start(hand, hand*4096, string(b)))
		m.same(t, d, "behind Start")
	}
	for _, hand := range []int{3, 7, 0, 1, 6, 2, 5, 4} {
		want(t, "Finish", d.Finish(hand), m.finish(hand))
		m.same(t, d, "behind Finish")
	}
	if len(m.under) != 0 {
		t.Fatal("some are still under way")
	}
}

func TestStartPlaces(t *testing.T) {
	for _, c := range []struct {
		at, n int
		e     api.Errno
	}{
		{0, 64, api.OK},
		{0, 256, api.OK},
		{64, 192, api.OK},
		{192, 64, api.OK},
		{128, 64, api.OK},
		{0, 320, api.ErrRange},
		{64, 256, api.ErrRange},
		{192, 128, api.ErrRange},
		{256, 64, api.ErrRange},
		{320, 64, api.ErrRange},
		{-64, 64, api.ErrRange},
		{-64, 128, api.ErrRange},
		{-64, 320, api.ErrRange},
		{-65536, 65536, api.ErrRange},
		{0, 65536, api.ErrRange},
		{0, 131072, api.ErrRange},
		{math.MinInt, 64, api.ErrRange},
		{math.MaxInt - 63, 64, api.ErrRange},
		{math.MaxInt - 127, 128, api.ErrRange},
		{1 << 32, 64, api.ErrRange},
		{0, 0, api.ErrArg},
		{64, 0, api.ErrArg},
		{256, 0, api.ErrArg},
		{320, 0, api.ErrArg},
		{-64, 0, api.ErrArg},
		{0, 1, api.ErrArg},
		{0, 63, api.ErrArg},
		{0, 65, api.ErrArg},
		{0, 127, api.ErrArg},
		{0, 32, api.ErrArg},
		{0, 321, api.ErrArg},
		{1, 64, api.ErrArg},
		{32, 64, api.ErrArg},
		{63, 64, api.ErrArg},
		{65, 64, api.ErrArg},
		{-1, 64, api.ErrArg},
		{-32, 64, api.ErrArg},
		{-63, 64, api.ErrArg},
		{-65, 64, api.ErrArg},
		{257, 64, api.ErrArg},
		{math.MaxInt, 64, api.ErrArg},
		{math.MinInt + 1, 64, api.ErrArg},
		{1, 63, api.ErrArg},
		{-1, 1, api.ErrArg},
	} {
		d, m := made(t, 256), newModel(256)
		b := fill(c.n, 1)
		if e := d.Start(4, c.at, b); e != c.e {
			t.Errorf("Start at %d of %d: %v, and should be %v", c.at, c.n, e, c.e)
			continue
		}
		if c.e == api.OK {
			m.under[4] = flight{c.at, string(b)}
		}
		m.same(t, d, "behind Start")
	}
}

func TestStartOfNil(t *testing.T) {
	d := made(t, 256)
	want(t, "nil", d.Start(0, 0, nil), api.ErrArg)
	want(t, "empty", d.Start(0, 0, []byte{}), api.ErrArg)
	want(t, "empty, with room", d.Start(0, 0, make([]byte, 0, 64)), api.ErrArg)
	newModel(256).same(t, d, "behind them")
}

func TestStartOnNoBytes(t *testing.T) {
	d := made(t, 0)
	want(t, "a sector", d.Start(0, 0, sectors(1)), api.ErrRange)
	want(t, "none", d.Start(0, 0, nil), api.ErrArg)
	newModel(0).same(t, d, "behind them")
}

// Which error is told where several could be: ErrArg ahead of ErrRange, and this ahead of ErrState.
func TestStartErrorsInOrder(t *testing.T) {
	d, m := made(t, 256), newModel(256)
	want(t, "Start", d.Start(5, 64, sectors(1, 2)), m.start(5, 64, string(sectors(1, 2))))
	for _, c := range []struct {
		what        string
		hand, at, n int
		e           api.Errno
	}{
		{"a write under way", 5, 64, 64, api.ErrState},
		{"the same place", 5, 64, 128, api.ErrState},
		{"a write under way, no place", 5, 256, 64, api.ErrRange},
		{"a write under way, a place below 0", 5, -64, 64, api.ErrRange},
		{"a write under way, too long", 5, 64, 256, api.ErrRange},
		{"a write under way, no multiple", 5, 1, 64, api.ErrArg},
		{"a write under way, a length that is no multiple", 5, 0, 63, api.ErrArg},
		{"a write under way, empty", 5, 0, 0, api.ErrArg},
		{"no multiple, no place", 4, 257, 64, api.ErrArg},
		{"no multiple, below 0", 4, -1, 64, api.ErrArg},
		{"a length that is no multiple, no place", 4, 256, 1, api.ErrArg},
		{"a length that is no multiple, below 0", 4, -64, 1, api.ErrArg},
		{"empty, no place", 4, 512, 0, api.ErrArg},
		{"empty, below 0", 4, -64, 0, api.ErrArg},
		{"no hand, no place", 8, 256, 64, api.ErrArg},
		{"no hand, below 0", -1, -64, 64, api.ErrArg},
		{"all of it", 5, -1, 0, api.ErrArg},
		{"all of it", 5, 511, 63, api.ErrArg},
	} {
		want(t, c.what, d.Start(c.hand, c.at, fill(c.n, 9)), c.e)
		m.same(t, d, c.what)
	}
	want(t, "Finish", d.Finish(5), m.finish(5))
	m.same(t, d, "behind all that was refused")
}

func TestStartKeepsItsOwnBytes(t *testing.T) {
	d, m := made(t, 256), newModel(256)
	b := sectors(1, 2, 3)
	want(t, "Start", d.Start(1, 64, b), m.start(1, 64, string(b)))
	c := string(b)
	clear(b)
	m.same(t, d, "b written over")
	want(t, "Finish", d.Finish(1), m.finish(1))
	m.same(t, d, "behind Finish")
	for i := range b {
		b[i] = 77
	}
	m.same(t, d, "b written over behind Finish")
	if m.bytes[64:] != c {
		t.Fatal("the model is wrong")
	}
}

func TestNobodyChangesItsArgument(t *testing.T) {
	d := made(t, 256)
	b := append(sectors(1, 2), fill(64, 3)...)
	a := b[:128]
	want(t, "Start", d.Start(1, 0, a), api.OK)
	want(t, "Start", d.Start(2, 0, sectors(8, 8)), api.OK)
	want(t, "Finish", d.Finish(1), api.OK)
	want(t, "Finish", d.Finish(2), api.OK)
	want(t, "Trim", d.Trim(0), api.OK)
	if string(b) != string(sectors(1, 2, 3)) {
		t.Fatalf("an argument was changed: %v", spans(b))
	}
}

func TestFlying(t *testing.T) {
	d := made(t, 65536)
	for _, hand := range append(numbers(), 0, 1, 2, 3, 4, 5, 6, 7) {
		if at, n, ok := d.Flying(hand); at != 0 || n != 0 || ok {
			t.Fatalf("of none: Flying(%d): %d, %d, %v", hand, at, n, ok)
		}
	}
	want(t, "Start", d.Start(0, 0, fill(65536, 1)), api.OK)
	want(t, "Start", d.Start(6, 65472, fill(64, 1)), api.OK)
	for range 2 {
		if at, n, ok := d.Flying(0); at != 0 || n != 65536 || !ok {
			t.Fatalf("Flying(0): %d, %d, %v", at, n, ok)
		}
		if at, n, ok := d.Flying(6); at != 65472 || n != 64 || !ok {
			t.Fatalf("Flying(6): %d, %d, %v", at, n, ok)
		}
	}
	for _, hand := range numbers() {
		if at, n, ok := d.Flying(hand); hand != 0 && hand != 6 && (at != 0 || n != 0 || ok) {
			t.Fatalf("beside one: Flying(%d): %d, %d, %v", hand, at, n, ok)
		}
	}
}

func TestFinishErrors(t *testing.T) {
	d, m := made(t, 128), newModel(128)
	want(t, "Start", d.Start(3, 0, sectors(1, 2)), m.start(3, 0, string(sectors(1, 2))))
	for hand := -1; hand <= 8; hand++ {
		if hand == 3 {
			continue
		}
		e := api.ErrNone
		if hand < 0 || hand > 7 {
			e = api.ErrArg
		}
		want(t, "Finish", d.Finish(hand), e)
		m.same(t, d, "behind Finish")
		for _, n := range []int{-1, 0, 1, 2, 3, math.MaxInt, math.MinInt} {
			want(t, "Crash", d.Crash(hand, n), e)
			m.same(t, d, "behind Crash")
		}
	}
	for _, hand := range []int{math.MinInt, -8, 9, 11, 1 << 32, 1<<32 + 3, math.MaxInt} {
		want(t, "Finish", d.Finish(hand), api.ErrArg)
		want(t, "Crash", d.Crash(hand, 1), api.ErrArg)
		m.same(t, d, "of no hand")
	}
	want(t, "Finish", d.Finish(3), m.finish(3))
	m.same(t, d, "behind Finish")
	want(t, "Finish once more", d.Finish(3), api.ErrNone)
	want(t, "Crash behind it", d.Crash(3, 2), api.ErrNone)
	m.same(t, d, "behind them")
}

func TestFinishAll(t *testing.T) {
	for _, n := range []int{64, 128, 4096, 65472, 65536} {
		d := made(t, 65536)
		b := make([]byte, n)
		for i := range b {
			b[i] = byte(i*7 + i/256 + 1)
		}
		want(t, "Start", d.Start(7, 65536-n, b), api.OK)
		wantBytes(t, d, make([]byte, 65536), "ahead of Finish")
		want(t, "Finish", d.Finish(7), api.OK)
		wantBytes(t, d, append(make([]byte, 65536-n), b...), "behind Finish")
	}
}

func TestCrash(t *testing.T) {
	old, fresh := sectors(1, 2, 3, 4, 5), sectors(11, 12, 13)
	for _, c := range []struct{ sectors, stand int }{
		{math.MinInt, 0}, {-65, 0}, {-64, 0}, {-2, 0}, {-1, 0}, {0, 0}, {1, 1}, {2, 2}, {3, 3}, {4, 3}, {5, 3}, {64, 3}, {1024, 3}, {1025, 3}, {1 << 32, 3}, {1 << 58, 3}, {1<<58 + 1, 3}, {math.MaxInt / 64, 3}, {math.MaxInt, 3},
	} {
		d := made(t, 320)
		want(t, "Start", d.Start(0, 0, old), api.OK)
		want(t, "Finish", d.Finish(0), api.OK)
		want(t, "Start", d.Start(2, 64, fresh), api.OK)
		wantBytes(t, d, old, "ahead of Crash")
		want(t, "Crash", d.Crash(2, c.sectors), api.OK)
		b := append([]byte(nil), old...)
		copy(b[64:], fresh[:64*c.stand])
		wantBytes(t, d, b, "behind Crash")
		if at, n, ok := d.Flying(2); at != 0 || n != 0 || ok {
			t.Fatalf("behind Crash Flying is %d, %d, %v", at, n, ok)
		}
		want(t, "Finish behind it", d.Finish(2), api.ErrNone)
		want(t, "Crash behind it", d.Crash(2, 3), api.ErrNone)
		wantBytes(t, d, b, "behind them")
		want(t, "Start behind it", d.Start(2, 0, sectors(9)), api.OK)
		wantBytes(t, d, b, "ahead of its end")
		want(t, "Finish", d.Finish(2), api.OK)
		copy(b, sectors(9))
		wantBytes(t, d, b, "at the end")
	}
}

func TestCrashOfTheGreatest(t *testing.T) {
	for _, n := range []int{0, 1, 511, 1022, 1023, 1024, 1025} {
		d := made(t, 65536)
		want(t, "Start", d.Start(0, 0, fill(65536, 6)), api.OK)
		want(t, "Crash", d.Crash(0, n), api.OK)
		b := make([]byte, 65536)
		for i := range b {
			if i < 64*n {
				b[i] = 6
			}
		}
		wantBytes(t, d, b, "behind Crash")
	}
}
