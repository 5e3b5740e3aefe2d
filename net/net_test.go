package net_test

import (
	"math"
	"strings"
	"testing"

	"flotilla/api"
	"flotilla/net"
)

// 11.1: New, Send, Take, Len, Sum

func TestExamples(t *testing.T) {
	x := made(t, 2)
	if e := x.Send(1, 2, full(1)); e != api.ErrArg {
		t.Error("Send(1, 2):", e)
	}
	a, b := full(1), full(2)
	if e := x.Send(0, 1, a); e != api.OK {
		t.Error("Send(0, 1, a):", e)
	}
	if e := x.Send(0, 1, b); e != api.OK {
		t.Error("Send(0, 1, b):", e)
	}
	if m, ok := x.Take(0, 1); !ok || !same(m, a) {
		t.Error("Take(0, 1):", m, ok)
	}
}

func TestNew(t *testing.T) {
	for n := -1; n <= 9; n++ {
		x, e := net.New(n)
		if n < 1 || n > 8 {
			if e != api.ErrArg || x != nil {
				t.Errorf("New(%d): %v, %v", n, x, e)
			}
			continue
		}
		if e != api.OK || x == nil {
			t.Fatalf("New(%d): %v, %v", n, x, e)
		}
	}
	for _, n := range far() {
		if x, e := net.New(n); n < 1 || n > 8 {
			if e != api.ErrArg || x != nil {
				t.Errorf("New(%d): %v, %v", n, x, e)
			}
		}
	}
}

func TestNewHasEmptyRows(t *testing.T) {
	for n := 1; n <= 8; n++ {
		w := newTwin(t, n)
		w.look()
		w.drain()
		for place := -1; place <= n+1; place++ {
			w.cut(place)
		}
	}
}

// Two nets have nothing in common.
func TestNewIsOneOfItsOwn(t *testing.T) {
	a, b := newTwin(t, 3), newTwin(t, 3)
	a.fill(between{0, 1}, 3, 0)
	a.fill(between{2, 0}, 256, 10)
	b.look()
	b.fill(between{2, 0}, 2, 500)
	a.look()
	b.cut(2)
	a.look()
}

// Every pair of places, of every n, asked while all rows have something.
func TestWhichRowsThereAre(t *testing.T) {
	for n := 1; n <= 8; n++ {
		w := newTwin(t, n)
		there := 0
		for i, b := range pairsOf(n) {
			if w.send(b.from, b.to, full(i)) == api.OK {
				there++
			}
		}
		if there != 2*n || w.net.Sum() != 2*n {
			t.Fatalf("of %d instances: %d rows took a message, and %d are there", n, there, w.net.Sum())
		}
		w.look()
		for _, b := range pairsOf(n) {
			if l := w.net.Peek(b.from, b.to); len(w.rows[b]) == 0 && len(l) != 0 {
				t.Fatalf("Peek(%d, %d) of %d instances: %v", b.from, b.to, n, kinds(l))
			}
		}
		for _, b := range pairsOf(n) {
			w.take(b.from, b.to)
		}
		if w.net.Sum() != 0 {
			t.Fatalf("of %d instances: %d are left", n, w.net.Sum())
		}
	}
}

func TestPlacesFarOut(t *testing.T) {
	for n := 1; n <= 8; n++ {
		w := newTwin(t, n)
		for i, b := range rowsOf(n) {
			w.send(b.from, b.to, full(i))
		}
		near := []int{0, 1, n}
		for _, p := range far() {
			if p <= n && p > 0 {
				continue
			}
			for _, q := range append(near, far()...) {
				for _, b := range []between{{p, q}, {q, p}} {
					if e := w.net.Send(b.from, b.to, full(9)); e != api.ErrArg {
						t.Fatalf("Send(%d, %d) of %d instances: %v", b.from, b.to, n, e)
					}
					if m, ok := w.net.Take(b.from, b.to); ok || !same(m, api.Msg{}) {
						t.Fatalf("Take(%d, %d) of %d instances: %v, %v", b.from, b.to, n, m, ok)
					}
					if k := w.net.Len(b.from, b.to); k != 0 {
						t.Fatalf("Len(%d, %d) of %d instances: %d", b.from, b.to, n, k)
					}
					if l := w.net.Peek(b.from, b.to); len(l) != 0 {
						t.Fatalf("Peek(%d, %d) of %d instances: %v", b.from, b.to, n, kinds(l))
					}
				}
			}
		}
		w.look()
	}
}

func TestOneMessage(t *testing.T) {
	for n := 1; n <= 8; n++ {
		for i, b := range rowsOf(n) {
			w := newTwin(t, n)
			w.send(b.from, b.to, full(i))
			w.look()
			if m, ok := w.take(b.from, b.to); !ok || !same(m, full(i)) {
				t.Fatalf("Take(%d, %d): %v, %v", b.from, b.to, m, ok)
			}
			w.look()
			w.drain()
		}
	}
}

// First in, first out; and Take of an empty row, at first, between and behind.
func TestSeveralMessages(t *testing.T) {
	w := newTwin(t, 2)
	for _, b := range rowsOf(2) {
		w.take(b.from, b.to)
		w.fill(b, 3, 1)
		for i := 1; i <= 3; i++ {
			if m, ok := w.take(b.from, b.to); !ok || m.Kind != i+1 {
				t.Fatalf("the message %d of the row from %d to %d: %v, %v", i, b.from, b.to, m, ok)
			}
		}
		for range 3 {
			if m, ok := w.take(b.from, b.to); ok || m.Kind != 0 {
				t.Fatalf("Take of an empty row: %v, %v", m, ok)
			}
		}
	}
}

// A row with two messages alike has both of them.
func TestMessagesThatAreAlike(t *testing.T) {
	w := newTwin(t, 1)
	for range 3 {
		w.send(0, 1, full(4))
		w.send(0, 1, api.Msg{})
		w.send(0, 1, api.Msg{})
	}
	w.look()
	w.drain()
}

// The zero message is one like any other: it is there, and is told with true.
func TestZeroMessage(t *testing.T) {
	x := made(t, 1)
	if e := x.Send(1, 0, api.Msg{}); e != api.OK || x.Len(1, 0) != 1 || x.Sum() != 1 || len(x.Peek(1, 0)) != 1 {
		t.Fatal("Send of the zero message:", e, x.Len(1, 0), x.Sum())
	}
	if m, ok := x.Take(1, 0); !ok || !same(m, api.Msg{}) {
		t.Fatal("Take of the zero message:", m, ok)
	}
	if _, ok := x.Take(1, 0); ok || x.Sum() != 0 {
		t.Fatal("the zero message is there twice")
	}
}

func TestRowsOfManyMessages(t *testing.T) {
	for n := 1; n <= 8; n++ {
		for _, b := range []between{{0, 1}, {1, 0}, {0, n}, {n, 0}} {
			for _, many := range []int{255, 256, 257} {
				w := newTwin(t, n)
				last := api.OK
				for i := range many {
					last = w.send(b.from, b.to, full(i))
				}
				if got := w.net.Len(b.from, b.to); got != min(many, 256) || (last == api.ErrFull) != (many == 257) {
					t.Fatalf("%d messages: %d stand there, and the last one was told %v", many, got, last)
				}
				w.look()
				w.drain()
			}
		}
	}
}

// Behind one that was taken there is room for one more, and not for two; it stands behind all others.
func TestRoomBehindOneThatWasTaken(t *testing.T) {
	for _, b := range rowsOf(2) {
		w := newTwin(t, 2)
		w.fill(b, 256, 0)
		for i := range 300 {
			if e := w.send(b.from, b.to, full(9000)); e != api.ErrFull {
				t.Fatal("Send to a full row:", e)
			}
			w.take(b.from, b.to)
			if e := w.send(b.from, b.to, full(256+i)); e != api.OK {
				t.Fatal("Send behind one that was taken:", e)
			}
		}
		w.look()
		w.drain()
	}
}

// What is refused changes nothing: neither rows nor what is handed in.
func TestWhatIsRefusedChangesNothing(t *testing.T) {
	w := newTwin(t, 3)
	w.fill(between{0, 2}, 256, 0)
	w.fill(between{2, 0}, 2, 1000)
	m := full(7)
	for _, b := range append(pairsOf(3), between{0, 2}, between{math.MaxInt, 0}, between{0, math.MinInt}) {
		if _, is := w.rows[b]; is && b != (between{0, 2}) {
			continue
		}
		if e := w.send(b.from, b.to, m); e == api.OK {
			t.Fatalf("Send(%d, %d): %v", b.from, b.to, e)
		}
		w.look()
	}
	if !same(m, full(7)) {
		t.Fatal("what was handed in has changed:", m)
	}
	w.drain()
}

// A full row takes none of the room of another one.
func TestAllRowsFull(t *testing.T) {
	w := newTwin(t, 8)
	for i, b := range rowsOf(8) {
		w.fill(b, 257, i*1000)
	}
	if got := w.net.Sum(); got != 16*256 {
		t.Fatal("Sum:", got)
	}
	w.look()
	w.drain()
}

func TestRowThatIsFilledAndEmptiedAgainAndAgain(t *testing.T) {
	w := newTwin(t, 1)
	for _, b := range rowsOf(1) {
		for round, many := range []int{256, 1, 255, 257, 3, 256, 128, 300, 256} {
			w.fill(b, many, round*1000)
			w.peek(b.from, b.to)
			for range min(many, 256) {
				w.take(b.from, b.to)
			}
			if m, ok := w.take(b.from, b.to); ok {
				t.Fatal("an emptied row has", m)
			}
		}
	}
}

// Messages in several rows at once, sent and taken in turns: Len and Sum are asked behind each call.
func TestLenAndSum(t *testing.T) {
	w := newTwin(t, 4)
	for i := range 40 {
		for k, b := range rowsOf(4) {
			if i%(k+1) == 0 {
				w.send(b.from, b.to, full(i*10+k))
			}
			if i%(9-k) == 0 {
				w.take(b.from, b.to)
			}
		}
	}
	w.look()
	w.drain()
}

// A message with something in every field comes back with all of it.
func TestEveryFieldComesBack(t *testing.T) {
	want := api.Msg{
		Kind: 3, Txn: 5, Page: 7, To: 2, Fast: true, Lsn: 33,
		Wants: []api.Want{{Name: "t", Mode: api.IX}, {Name: "p3", Mode: api.S}}, Pages: []int{7, 0, 15}, Body: "a\x00\xffb",
	}
	for _, b := range rowsOf(2) {
		x := made(t, 2)
		if e := x.Send(b.from, b.to, want); e != api.OK {
			t.Fatal("Send:", e)
		}
		if l := x.Peek(b.from, b.to); len(l) != 1 || !same(l[0], want) {
			t.Fatal("Peek:", l)
		}
		if m, ok := x.Take(b.from, b.to); !ok || !same(m, want) {
			t.Fatal("Take:", m, ok)
		}
	}
}

// oddMessages have what no layer would send; a net carries them as they are.
func oddMessages() []api.Msg {
	return []api.Msg{
		{Kind: -1, Txn: math.MinInt, Page: math.MaxInt, To: 99},
		{Kind: math.MaxInt, To: -5, Lsn: math.MaxUint64},
		{Wants: []api.Want{{}, {Name: "", Mode: -1}, {Name: "x", Mode: math.MaxInt}}, Pages: []int{math.MinInt, -1, 0}},
		{Wants: []api.Want{}, Pages: []int{}},
		{Wants: make([]api.Want, 3000)},
		{Pages: make([]int, 3000), Body: "\xff\xfe"},
		{Body: strings.Repeat("body", 50000)},
		{Fast: true},
		{To: 1, Body: "\x00"},
	}
}

func TestMessagesAreCarriedAsTheyAre(t *testing.T) {
	w := newTwin(t, 2)
	for _, b := range rowsOf(2) {
		for _, m := range oddMessages() {
			if e := w.send(b.from, b.to, m); e != api.OK {
				t.Fatal("Send:", e)
			}
		}
	}
	w.look()
	w.drain()
}
