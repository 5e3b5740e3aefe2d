package net_test

import (
	"testing"

	"flotilla/api"
	"flotilla/net"
)

// 11.3: what is kept and told, a nil Net

// roomy is a message whose lists have room behind them, with something in it.
func roomy(i int) api.Msg {
	m := full(i)
	m.Wants = append(m.Wants, api.Want{Name: "behind", Mode: api.S})[:2]
	m.Pages = append(m.Pages, 77, 78)[:3]
	return m
}

// A message that is written over behind Send is taken and told as it was.
func TestSentMessagesAreKeptAsTheyWere(t *testing.T) {
	for _, b := range rowsOf(2) {
		x := made(t, 2)
		for i := range 5 {
			m := roomy(i)
			if e := x.Send(b.from, b.to, m); e != api.OK {
				t.Fatal("Send:", e)
			}
			scribble(m)
		}
		for i, m := range x.Peek(b.from, b.to) {
			if !same(m, full(i)) {
				t.Errorf("Peek tells %v, and sent was %v", m, full(i))
			}
		}
		for i := range 5 {
			if m, ok := x.Take(b.from, b.to); !ok || !same(m, full(i)) {
				t.Errorf("Take tells %v, %v, and sent was %v", m, ok, full(i))
			}
		}
	}
}

// Send writes nothing into what is handed in, the room behind its lists neither; and what is told has none of it.
func TestToldMessagesAreNotWhatWasHandedIn(t *testing.T) {
	x := made(t, 1)
	m := roomy(3)
	for range 2 {
		if e := x.Send(0, 1, m); e != api.OK {
			t.Fatal("Send:", e)
		}
	}
	intact := func(when string) {
		t.Helper()
		if !same(m, full(3)) || m.Wants[:3][2] != (api.Want{Name: "behind", Mode: api.S}) || m.Pages[:5][3] != 77 || m.Pages[:5][4] != 78 {
			t.Errorf("%s: what was handed in has changed: %v, %v", when, m.Wants[:3], m.Pages[:5])
		}
	}
	intact("behind Send")
	scribbleRow(x.Peek(0, 1))
	intact("behind Peek")
	for range 2 {
		told, _ := x.Take(0, 1)
		scribble(told)
		intact("behind Take")
	}
}

// One message that is sent to several rows, and twice to one of them, is a message of its own each time.
func TestOneMessageSentTwice(t *testing.T) {
	x := made(t, 2)
	m := full(5)
	to := append(rowsOf(2), rowsOf(2)...)
	for _, b := range to {
		if e := x.Send(b.from, b.to, m); e != api.OK {
			t.Fatal("Send:", e)
		}
	}
	for _, b := range to {
		got, ok := x.Take(b.from, b.to)
		if !ok || !same(got, full(5)) {
			t.Fatalf("Take(%d, %d): %v, %v", b.from, b.to, got, ok)
		}
		scribble(got)
	}
}

// What Peek told can be written over: neither what stands there nor what is told again changes.
func TestPeekTellsNewMemory(t *testing.T) {
	for _, many := range []int{1, 2, 7, 256} {
		w := newTwin(t, 1)
		w.fill(between{0, 1}, many, 0)
		first, second := w.net.Peek(0, 1), w.net.Peek(0, 1)
		scribbleRow(first)
		if !sameRow(second, w.rows[between{0, 1}]) {
			t.Fatal("two answers of Peek share memory")
		}
		w.look()
		for i := range second {
			scribbleRow(second[i : i+1 : i+1])
			if rest := w.rows[between{0, 1}][i+1:]; !sameRow(second[i+1:], rest) {
				t.Fatal("messages of one answer share memory")
			}
		}
		scribbleRow(second)
		w.look()
		w.drain()
	}
}

// Within one message, too, lists that had their memory together have it no more.
func TestListsThatWereOne(t *testing.T) {
	x := made(t, 1)
	pages := []int{1, 2, 3, 4, 5, 6}
	for i := range 3 {
		if e := x.Send(1, 0, api.Msg{Pages: pages[i : i+3]}); e != api.OK {
			t.Fatal("Send:", e)
		}
	}
	l := x.Peek(1, 0)
	for i := range l {
		if got := l[i].Pages; len(got) != 3 || got[0] != i+1 || got[1] != i+2 || got[2] != i+3 {
			t.Fatalf("the message %d has %v", i, got)
		}
		scribble(l[i])
	}
	for i := range 3 {
		m, _ := x.Take(1, 0)
		if got := m.Pages; len(got) != 3 || got[0] != i+1 || got[1] != i+2 || got[2] != i+3 {
			t.Fatalf("the message %d has %v", i, got)
		}
		scribble(m)
	}
	if pages[0] != 1 || pages[5] != 6 {
		t.Fatal("what was handed in has changed:", pages)
	}
}

// What Take told can be written over: nothing of what was told ahead of it, stands there or is told then changes.
func TestTakeTellsNewMemory(t *testing.T) {
	w := newTwin(t, 1)
	w.fill(between{1, 0}, 4, 0)
	told := w.net.Peek(1, 0)
	m, _ := w.take(1, 0)
	scribble(m)
	m.Wants, m.Pages = append(m.Wants, api.Want{Name: "more"}), append(m.Pages, 99)
	scribble(m)
	for i := range told {
		if !same(told[i], full(i)) {
			t.Fatalf("Peek told %v, and now it is %v", full(i), told[i])
		}
	}
	w.look()
	scribbleRow(told)
	w.look()
	w.drain()
}

// What was told stays as it was, whatever is sent, taken, looked at and cut behind it.
func TestWhatWasToldStays(t *testing.T) {
	w := newTwin(t, 2)
	w.fill(between{0, 1}, 256, 0)
	all := w.peek(0, 1)
	var taken []api.Msg
	for i := range 600 {
		m, _ := w.take(0, 1)
		taken = append(taken, m)
		w.send(0, 1, full(256+i))
	}
	w.cut(1)
	w.fill(between{0, 1}, 256, 9000)
	w.fill(between{1, 0}, 256, 9000)
	for i, m := range all {
		if !same(m, full(i)) {
			t.Fatalf("Peek told %v, and now it is %v", full(i), m)
		}
	}
	for i, m := range taken {
		if !same(m, full(i)) {
			t.Fatalf("Take told %v, and now it is %v", full(i), m)
		}
	}
}

func TestNilNet(t *testing.T) {
	var x *net.Net
	ends(t, "a nil Net", func() {
		places := append([]int{0, 1, 2, 8}, far()...)
		for _, from := range places {
			for _, to := range places {
				m := full(1)
				if e := x.Send(from, to, m); e != api.ErrArg || !same(m, full(1)) {
					t.Errorf("Send(%d, %d): %v", from, to, e)
				}
				if m, ok := x.Take(from, to); ok || !same(m, api.Msg{}) {
					t.Errorf("Take(%d, %d): %v, %v", from, to, m, ok)
				}
				if n := x.Len(from, to); n != 0 {
					t.Errorf("Len(%d, %d): %d", from, to, n)
				}
				if l := x.Peek(from, to); len(l) != 0 {
					t.Errorf("Peek(%d, %d): %v", from, to, l)
				}
			}
			if n := x.Cut(from); n != 0 {
				t.Errorf("Cut(%d): %d", from, n)
			}
		}
		if n := x.Sum(); n != 0 {
			t.Errorf("Sum: %d", n)
		}
	})
}
