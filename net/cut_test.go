package net_test

import (
	"testing"

	"flotilla/api"
)

// 11.2: Cut, Peek

// Of each instance, with messages in both of its rows, in one, in none; the others have some.
func TestCut(t *testing.T) {
	for n := 1; n <= 8; n++ {
		for place := 1; place <= n; place++ {
			for _, has := range [][2]int{{3, 4}, {5, 0}, {0, 6}, {0, 0}, {1, 1}, {256, 256}, {256, 0}} {
				w := newTwin(t, n)
				for other := 1; other <= n; other++ {
					if other != place {
						w.fill(between{0, other}, 2, other*100)
						w.fill(between{other, 0}, 1, other*200)
					}
				}
				w.fill(between{place, 0}, has[0], 5000)
				w.fill(between{0, place}, has[1], 6000)
				if got := w.cut(place); got != has[0]+has[1] {
					t.Fatalf("Cut(%d) with %v: %d", place, has, got)
				}
				if w.net.Len(place, 0)+w.net.Len(0, place) != 0 || w.net.Sum() != 3*(n-1) {
					t.Fatalf("behind Cut(%d) of %d instances: %d", place, n, w.net.Sum())
				}
				w.look()
				if got := w.cut(place); got != 0 {
					t.Fatalf("Cut(%d) once more: %d", place, got)
				}
				w.drain()
			}
		}
	}
}

// The manager never crashes, and where nobody is nobody does.
func TestCutOfNoInstance(t *testing.T) {
	for n := 1; n <= 8; n++ {
		w := newTwin(t, n)
		for i, b := range rowsOf(n) {
			w.fill(b, 2, i*10)
		}
		for _, place := range append([]int{0, -n, n + 1, n + 2}, far()...) {
			if place >= 1 && place <= n {
				continue
			}
			if got := w.cut(place); got != 0 {
				t.Fatalf("Cut(%d) of %d instances: %d", place, n, got)
			}
		}
		w.look()
		w.drain()
	}
}

// An instance that was cut sends and is sent to, its rows with all their room.
func TestSendBehindCut(t *testing.T) {
	w := newTwin(t, 3)
	for round := range 5 {
		w.fill(between{0, 2}, 100*round, 0)
		w.fill(between{2, 0}, 300-round, 1000)
		w.fill(between{0, 3}, 1, 2000)
		w.cut(2)
		for _, b := range []between{{0, 2}, {2, 0}} {
			if m, ok := w.take(b.from, b.to); ok {
				t.Fatal("behind Cut there is", m)
			}
			w.fill(b, 257, 3000+round)
			w.peek(b.from, b.to)
			if m, ok := w.take(b.from, b.to); !ok || m.Kind != 3001+round {
				t.Fatal("behind Cut the first is", m, ok)
			}
		}
		w.look()
	}
	w.drain()
}

// One instance behind the other, till nothing is left.
func TestCutOfAll(t *testing.T) {
	w := newTwin(t, 8)
	for i, b := range rowsOf(8) {
		w.fill(b, i*17, i*1000)
	}
	for _, place := range []int{3, 1, 8, 2, 7, 5, 6, 4} {
		w.cut(place)
		w.look()
	}
	if got := w.net.Sum(); got != 0 {
		t.Fatal("Sum:", got)
	}
}

func TestPeekOfEmptyRows(t *testing.T) {
	for n := 1; n <= 8; n++ {
		x := made(t, n)
		for _, b := range pairsOf(n) {
			if l := x.Peek(b.from, b.to); len(l) != 0 {
				t.Fatalf("Peek(%d, %d): %v", b.from, b.to, kinds(l))
			}
		}
	}
	w := newTwin(t, 1)
	w.fill(between{0, 1}, 4, 0)
	w.drain()
	w.look()
}

// Of one message, of many, of a full row: in order, and again and again the same; what was told is what is taken then.
func TestPeekChangesNothing(t *testing.T) {
	for _, many := range []int{1, 2, 3, 100, 255, 256} {
		for _, b := range rowsOf(2) {
			w := newTwin(t, 2)
			for i, other := range rowsOf(2) {
				w.fill(other, 2, i*10)
				w.take(other.from, other.to)
				w.take(other.from, other.to)
			}
			w.fill(b, many, 100)
			told := w.peek(b.from, b.to)
			if len(told) != many {
				t.Fatalf("Peek of %d: %d", many, len(told))
			}
			for range 3 {
				w.peek(b.from, b.to)
			}
			for i, want := range told {
				if m, ok := w.take(b.from, b.to); !ok || !same(m, want) || m.Kind != 101+i {
					t.Fatalf("Peek told %v, and Take tells %v, %v", want, m, ok)
				}
				w.peek(b.from, b.to)
			}
			w.look()
		}
	}
}

// A row that was looked at is as full as it was.
func TestPeekOfAFullRow(t *testing.T) {
	w := newTwin(t, 1)
	w.fill(between{1, 0}, 256, 0)
	w.peek(1, 0)
	if e := w.send(1, 0, full(999)); e != api.ErrFull {
		t.Fatal("Send behind Peek of a full row:", e)
	}
	w.take(1, 0)
	w.peek(1, 0)
	if e := w.send(1, 0, full(999)); e != api.OK {
		t.Fatal("Send behind Take and Peek:", e)
	}
	w.peek(1, 0)
	if got := w.cut(1); got != 256 {
		t.Fatal("Cut behind Peek:", got)
	}
}
