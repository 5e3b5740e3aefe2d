package wal_test

import (
	"bytes"
	"testing"

	"flotilla/api"
	"flotilla/stable"
	"flotilla/wal"
)

// isUnder asks for a hand's write under way.
func isUnder(t *testing.T, d *stable.Device, hand, at int, want []byte) {
	t.Helper()
	a, n, ok := d.Flying(hand)
	if !ok || a != at || n != len(want) {
		t.Fatalf("under way: %d bytes at %d, %v: asked for %d at %d", n, a, ok, len(want), at)
	}
	if b := under(t, d, hand); !bytes.Equal(b, want) {
		t.Fatalf("under way: %v: asked for %v", b, want)
	}
}

// padded is bytes with noughts behind them, so many in all.
func padded(b []byte, n int) []byte {
	return append(bytes.Clone(b), make([]byte, n-len(b))...)
}

// The writes of the chapter's example, byte by byte.
func TestForceByteByByte(t *testing.T) {
	d := device(t, 192, nil)
	w, _ := wal.Open(d, 5)
	mustLay(t, w, commit(33, 7))
	frame := []byte{21, 0, 3, 33, 0, 0, 0, 0, 0, 0, 0, 7, 0, 0, 0, 0, 0, 0, 0, 0, 0, 0, 0}
	frame = sealed(frame)
	if len(frame) != 27 || w.Flying() {
		t.Fatal("the frame has", len(frame))
	}
	if !w.Force() || !w.Flying() {
		t.Fatal("not forced")
	}
	isUnder(t, d, 5, 64, padded(frame, 64))
	if !bytes.Equal(all(t, d), make([]byte, 192)) || w.Stable() != 0 {
		t.Fatal("something stands there too early")
	}
	if w.Done() != api.OK || !w.Flying() || w.Stable() != 0 {
		t.Fatal("Done, the first time")
	}
	isUnder(t, d, 5, 0, padded(sealed([]byte{27, 0, 0, 0}), 64))
	if b := all(t, d); !bytes.Equal(b, padded(append(make([]byte, 64), frame...), 192)) {
		t.Fatal("the device has", b)
	}
	if w.Done() != api.OK || w.Flying() || w.Stable() != 33 {
		t.Fatal("Done, the second time")
	}
	if _, _, ok := d.Flying(5); ok {
		t.Fatal("something is still under way")
	}
	want := append(padded(sealed([]byte{27, 0, 0, 0}), 64), padded(frame, 128)...)
	if b := all(t, d); !bytes.Equal(b, want) {
		t.Fatal("the device has", b)
	}
	if w.Done() != api.ErrNone || w.Force() {
		t.Fatal("there is nothing more")
	}
}

// Where a write begins and ends, by how many bytes are stable and how many aren't.
func TestWhereAWriteBegins(t *testing.T) {
	for _, c := range []struct{ stable, more, at, n int }{
		{0, 27, 64, 64}, {0, 63, 64, 64}, {0, 64, 64, 64}, {0, 65, 64, 128},
		{27, 37, 64, 64}, {27, 38, 64, 128}, {27, 101, 64, 128}, {27, 102, 64, 192},
		{63, 65, 64, 128}, {63, 66, 64, 192},
		{64, 27, 128, 64}, {64, 64, 128, 64}, {64, 65, 128, 128},
		{65, 63, 128, 64}, {65, 64, 128, 128}, {65, 27, 128, 64},
		{100, 27, 128, 64}, {100, 28 + 37, 128, 128},
	} {
		w, d, m := fresh(t, 512, 1)
		lay := func(l api.Lsn, size int) {
			r := sized(t, l, 1, size)
			if w.Append(r) != api.OK || m.lay(r, false) != api.OK {
				t.Fatal("Append")
			}
		}
		if c.stable > 0 {
			lay(20, c.stable)
			forcedAll(t, w)
			m.force()
			m.done()
			m.done()
		}
		lay(40, c.more)
		if !w.Force() || !m.force() {
			t.Fatal("not forced")
		}
		m.hold(w, d)
		if at, n, ok := d.Flying(1); at != c.at || n != c.n || !ok {
			t.Fatalf("%d behind %d: %d bytes at %d, %v: asked for %d at %d", c.more, c.stable, n, at, ok, c.n, c.at)
		}
		for range 3 {
			if w.Done() != m.done() {
				t.Fatal("Done")
			}
			m.hold(w, d)
		}
	}
}

// Records of every length behind records of every length, one by one and several at a time, with more of them laid at each step.
func TestForceOfAllLengths(t *testing.T) {
	for first := 37; first <= 116; first++ {
		for _, second := range []int{27, 37, 63, 64, 65, 101, 116} {
			w, d, m := fresh(t, 1024, (first+second)%8)
			lsn := api.Lsn(16)
			lay := func(size int) {
				r := sized(t, lsn, 3, size)
				lsn += 7
				if w.Append(r) != api.OK || m.lay(r, false) != api.OK {
					t.Fatal("Append")
				}
				m.hold(w, d)
			}
			step := func(want bool) {
				if w.Force() != want || m.force() != want {
					t.Fatal("Force: asked for", want)
				}
				m.hold(w, d)
			}
			done := func(want api.Errno) {
				if w.Done() != want || m.done() != want {
					t.Fatal("Done: asked for", want)
				}
				m.hold(w, d)
			}
			step(false)
			done(api.ErrNone)
			lay(first)
			lay(second)
			step(true)
			step(false)
			lay(second) // ahead of the first Done
			step(false)
			done(api.OK)
			lay(first) // between both
			step(false)
			done(api.OK)
			done(api.ErrNone)
			lay(27)
			step(true) // the three that came since
			done(api.OK)
			done(api.OK)
			done(api.ErrNone)
			step(false)
		}
	}
}

// What is laid while others are being forced is not stable with them, and not told of by their mark.
func TestLaidWhileForced(t *testing.T) {
	d := device(t, 256, nil)
	w, _ := wal.Open(d, 0)
	mustLay(t, w, commit(17, 1))
	if !w.Force() {
		t.Fatal("not forced")
	}
	mustLay(t, w, commit(33, 2))
	if w.Keep(30) != api.OK || w.Done() != api.OK || w.Spend(commit(49, 3)) != api.OK {
		t.Fatal("not laid meanwhile")
	}
	isUnder(t, d, 0, 0, markOf(27))
	if w.Done() != api.OK || w.Stable() != 17 || w.Last() != 49 || w.Flying() || len(w.Records()) != 3 {
		t.Fatal("stable:", w.Stable(), "last:", w.Last())
	}
	if got := wal.Read(d); !same(got, []api.Record{commit(17, 1)}) {
		t.Fatal("on its device:", got)
	}
	if !w.Force() || w.Done() != api.OK || w.Stable() != 17 {
		t.Fatal("not forced again")
	}
	isUnder(t, d, 0, 0, markOf(81))
	if w.Done() != api.OK || w.Stable() != 49 || len(wal.Read(d)) != 3 {
		t.Fatal("not all are stable")
	}
}

// Calls that lay, keep and ask don't disturb what is under way.
func TestUnderWayStays(t *testing.T) {
	w, d, m := fresh(t, 512, 7)
	r := sized(t, 16, 1, 100)
	mustLay(t, w, r)
	m.lay(r, false)
	w.Force()
	m.force()
	for range 2 {
		if w.Keep(50) != m.keep(50) || w.Append(commit(16, 1)) != api.ErrArg {
			t.Fatal("Keep, Append")
		}
		w.Drop(20)
		m.drop(20)
		m.hold(w, d)
		if w.Done() != m.done() {
			t.Fatal("Done")
		}
		m.hold(w, d)
	}
}

// A hand that somebody else has begun to write with takes no other write: nothing is told as forced that isn't.
func TestForceWithABusyHand(t *testing.T) {
	w, d, m := fresh(t, 256, 3)
	mustLay(t, w, commit(17, 1))
	if d.Start(3, 192, bytes.Repeat([]byte{9}, 64)) != api.OK {
		t.Fatal("no write")
	}
	if w.Force() || w.Flying() || w.Stable() != 0 || w.Done() != api.ErrNone {
		t.Fatal("forced by a busy hand")
	}
	d.Finish(3)
	m.disk = all(t, d)
	m.lay(commit(17, 1), false)
	m.hold(w, d)
	forcedAll(t, w)
	if len(wal.Read(d)) != 1 {
		t.Fatal("not on the device")
	}
}

// A log whose write is lost beneath it never tells that its records are stable.
func TestDoneOfALostWrite(t *testing.T) {
	for dones := range 2 {
		d := device(t, 256, nil)
		w, _ := wal.Open(d, 3)
		mustLay(t, w, commit(17, 1))
		w.Force()
		for range dones {
			w.Done()
		}
		if d.Crash(3, 0) != api.OK {
			t.Fatal("no crash")
		}
		if e := w.Done(); e != api.ErrNone || w.Stable() != 0 {
			t.Fatal("Done of what is lost:", e, w.Stable())
		}
		if len(wal.Read(d)) != 0 {
			t.Fatal("it stands there")
		}
	}
}

// Writes of other hands to other places are none of the log's.
func TestOtherHands(t *testing.T) {
	d := device(t, 512, nil)
	w, _ := wal.Open(d, 2)
	mark := bytes.Repeat([]byte{5}, 64)
	for hand := range api.MaxInst {
		if hand != 2 && d.Start(hand, 448, mark) != api.OK {
			t.Fatal("no write")
		}
	}
	mustLay(t, w, sized(t, 16, 1, 90))
	forcedAll(t, w)
	for hand := range api.MaxInst {
		if at, n, ok := d.Flying(hand); ok != (hand != 2) || ok && (at != 448 || n != 64) {
			t.Fatal("hand", hand, "has", at, n, ok)
		}
	}
	if len(wal.Read(d)) != 1 || w.Stable() != 16 {
		t.Fatal("not stable")
	}
}
