package wal_test

import (
	"bytes"
	"math"
	"testing"

	"flotilla/api"
	"flotilla/rec"
	"flotilla/stable"
	"flotilla/wal"
)

// reads asks for records, and that the device stays as it was.
func reads(t *testing.T, d *stable.Device, want []api.Record) {
	t.Helper()
	before := all(t, d)
	if l := wal.Read(d); !same(l, want) {
		t.Fatalf("Read: %v: asked for %v", l, want)
	}
	if l := stands(before); !same(l, want) {
		t.Fatalf("the test's own reading is %v: asked for %v", l, want)
	}
	for hand := range api.MaxInst {
		w, e := wal.Open(d, hand)
		if e != api.OK || !same(w.Records(), want) {
			t.Fatalf("Open(%d): %d, %v: asked for %v", hand, e, w.Records(), want)
		}
		if _, _, ok := d.Flying(hand); ok {
			t.Fatalf("Open(%d) begins a write", hand)
		}
	}
	if !bytes.Equal(all(t, d), before) {
		t.Fatal("the device is not as it was")
	}
}

func three(t *testing.T) []api.Record {
	return []api.Record{commit(17, 1), sized(t, 33, 2, 90), check(50, 2, 3)}
}

func TestReadOfNone(t *testing.T) {
	if l := wal.Read(nil); len(l) != 0 {
		t.Fatal("of nil:", l)
	}
	if l := wal.Read(device(t, 0, nil)); len(l) != 0 {
		t.Fatal("of no bytes:", l)
	}
	for _, size := range []int{64, 128, 192, 4096, api.MaxLog, api.MaxBytes} {
		reads(t, device(t, size, nil), nil)
	}
}

func TestReadOfRecords(t *testing.T) {
	l := three(t)
	b := frames(t, l...)
	reads(t, laid(t, 320, uint32(len(b)), b), l)
	reads(t, laid(t, api.MaxBytes, uint32(len(b)), b), l)
	one := frames(t, l[0])
	reads(t, laid(t, 128, 27, one), l[:1])
	reads(t, laid(t, 64, 0, nil), nil)
}

func TestReadOfAFullDevice(t *testing.T) {
	for _, size := range []int{128, 1024, api.MaxBytes} {
		var l []api.Record
		var b []byte
		for left := size - 64; left > 0; left = size - 64 - len(b) {
			n := 64
			if left < 128 {
				n = left
			}
			l = append(l, sized(t, api.Lsn(16*(len(l)+1)), 1, n))
			b = frames(t, l...)
		}
		reads(t, laid(t, size, uint32(size-64), b), l)
		w, e := wal.Open(laid(t, size, uint32(size-64), b), 0)
		if e != api.OK || w.Room() != 0 {
			t.Fatal("a full device:", e, w.Room())
		}
	}
}

// The mark's number is cut short byte by byte: only frames that are within it count.
func TestMarkTellsFewer(t *testing.T) {
	l := three(t)
	b := frames(t, l...)
	for n := range len(b) + 1 {
		count := 0
		for count < len(l) && len(frames(t, l[:count+1]...)) <= n {
			count++
		}
		reads(t, laid(t, 320, uint32(n), b), l[:count])
	}
}

// More bytes than frames: what stands behind them is no frame.
func TestMarkTellsMore(t *testing.T) {
	l := three(t)
	b := frames(t, l...)
	for n := len(b); n <= 320-64; n++ {
		reads(t, laid(t, 320, uint32(n), b), l)
	}
	for _, n := range []uint32{320 - 63, 320, 1 << 16, 1 << 31, 1<<31 + 10, 1<<32 - 1} {
		reads(t, laid(t, 320, n, b), nil)
	}
	reads(t, laid(t, 64, 1, nil), nil)
	reads(t, laid(t, api.MaxBytes, api.MaxBytes-64, b), l)
	reads(t, laid(t, api.MaxBytes, api.MaxBytes-63, b), nil)
}

func TestMarkIsSealed(t *testing.T) {
	l := three(t)
	b := frames(t, l...)
	good := append(markOf(uint32(len(b))), b...)
	for i := range 8 {
		for bit := range 8 {
			bad := bytes.Clone(good)
			bad[i] ^= 1 << bit
			reads(t, device(t, 320, bad), nil)
		}
	}
	none := bytes.Clone(good)
	clear(none[:64])
	reads(t, device(t, 320, none), nil)
	for i := range 8 { // all of them 255: sealed, but more than there are
		none[i] = 255
	}
	reads(t, device(t, 320, none), nil)
}

// Only its first eight bytes are asked: noughts stand behind them, but nobody holds them to it.
func TestMarkHasMoreBehind(t *testing.T) {
	l := three(t)
	b := frames(t, l...)
	for i := 8; i < 64; i++ {
		d := append(markOf(uint32(len(b))), b...)
		d[i] = 0xA5
		reads(t, device(t, 320, d), l)
	}
}

// One bit is turned: the row ends ahead of the frame that has it.
func TestReadOfSpoiltFrames(t *testing.T) {
	l := three(t)
	b := frames(t, l...)
	for i := range b {
		count := 0
		for len(frames(t, l[:count+1]...)) <= i {
			count++
		}
		for bit := range 8 {
			bad := bytes.Clone(b)
			bad[i] ^= 1 << bit
			reads(t, laid(t, 320, uint32(len(b)), bad), l[:count])
		}
	}
}

func TestReadWhereLsnsDontRise(t *testing.T) {
	for _, c := range []struct {
		lsns []api.Lsn
		want int
	}{
		{[]api.Lsn{32, 32, 48}, 1},
		{[]api.Lsn{32, 31, 48}, 1},
		{[]api.Lsn{32, 16, 48}, 1},
		{[]api.Lsn{32, 33, 33}, 2},
		{[]api.Lsn{32, 33, 32, 64}, 2},
		{[]api.Lsn{32, 33, 34}, 3},
		{[]api.Lsn{1<<60 + 15, 16, 17}, 1},
		{[]api.Lsn{16, 1<<60 + 15}, 2},
	} {
		var l []api.Record
		for i, lsn := range c.lsns {
			l = append(l, commit(lsn, i+1))
		}
		b := frames(t, l...)
		reads(t, laid(t, 256, uint32(len(b)), b), l[:c.want])
	}
}

// unmade is a frame whose sum holds, of bytes that are no record's.
func unmade(b []byte) []byte {
	return sealed(append([]byte{byte(len(b)), byte(len(b) >> 8)}, b...))
}

func TestReadOfNoRecords(t *testing.T) {
	ok := commit(17, 1)
	own, _ := rec.Encode(commit(33, 1))
	next := frames(t, commit(49, 1))
	for i, bad := range [][]byte{
		nil,
		{1, 2, 3},
		own[:20],
		append(bytes.Clone(own), 0),
		append([]byte{0}, own[1:]...),           // no kind
		append([]byte{9}, own[1:]...),           // no kind
		append([]byte{3, 15}, own[2:]...),       // an LSN below the least
		append(bytes.Clone(own[:9]), own[:]...), // too long
	} {
		if _, e := rec.Decode(bad); e == api.OK {
			t.Fatal("a record, by mistake:", i)
		}
		for _, ahead := range [][]api.Record{nil, {ok}} {
			b := append(frames(t, ahead...), unmade(bad)...)
			b = append(b, next...)
			reads(t, laid(t, 256, uint32(len(b)), b), ahead)
		}
	}
}

// What is under way doesn't stand on a device.
func TestReadBesideWrites(t *testing.T) {
	l := three(t)
	b := frames(t, l...)
	d := laid(t, 320, 27, b)
	if d.Start(0, 0, markOf(uint32(len(b)))) != api.OK || d.Start(3, 64, make([]byte, 64)) != api.OK {
		t.Fatal("no writes")
	}
	if got := wal.Read(d); !same(got, l[:1]) {
		t.Fatal("amid writes:", got)
	}
	if at, n, ok := d.Flying(0); at != 0 || n != 64 || !ok {
		t.Fatal("the write is gone")
	}
	d.Finish(0)
	if got := wal.Read(d); !same(got, l) {
		t.Fatal("behind one:", got)
	}
	d.Finish(3)
	if got := wal.Read(d); len(got) != 0 {
		t.Fatal("behind both:", got)
	}
}

func TestReadIsTheCallersOwn(t *testing.T) {
	l := three(t)
	b := frames(t, l...)
	d := laid(t, 320, uint32(len(b)), b)
	first, second := wal.Read(d), wal.Read(d)
	spoil(first)
	if !same(second, l) || !same(wal.Read(d), l) {
		t.Fatal("answers share memory")
	}
}

// spoil writes over all that records have, and behind it as far as there is room.
func spoil(l []api.Record) {
	for i := range l {
		x := l[i].Txns[:cap(l[i].Txns)]
		for k := range x {
			x[k] = api.Txn{ID: -1, State: 9, Last: 1}
		}
		y := l[i].Dirty[:cap(l[i].Dirty)]
		for k := range y {
			y[k] = api.Dirty{Page: -1, Rec: 1}
		}
	}
	l = l[:cap(l)]
	for i := range l {
		l[i] = api.Record{Kind: 99}
	}
}

func TestOpenRefuses(t *testing.T) {
	refused := func(d *stable.Device, hand int, want api.Errno) {
		t.Helper()
		w, e := wal.Open(d, hand)
		if e != want || w != nil {
			t.Fatalf("Open(%d): %v, %d: asked for %d", hand, w, e, want)
		}
	}
	for _, hand := range []int{0, 7, -1, 8, math.MinInt, math.MaxInt} {
		refused(nil, hand, api.ErrArg)
		refused(device(t, 0, nil), hand, api.ErrArg)
	}
	d := device(t, 128, nil)
	for _, hand := range []int{-1, 8, 9, math.MinInt, math.MaxInt, 1 << 32} {
		refused(d, hand, api.ErrArg)
	}
	for hand := range api.MaxInst {
		if w, e := wal.Open(d, hand); e != api.OK || w == nil {
			t.Fatal("hand", hand, e)
		}
	}
}

func TestOpenWithAWriteUnderWay(t *testing.T) {
	b := frames(t, commit(17, 1))
	for busy := range api.MaxInst {
		d := laid(t, 128, 27, b)
		if d.Start(busy, 64, bytes.Repeat([]byte{7}, 64)) != api.OK {
			t.Fatal("no write")
		}
		for hand := -1; hand <= 8; hand++ {
			want := api.OK
			if hand < 0 || hand > 7 {
				want = api.ErrArg
			} else if hand == busy {
				want = api.ErrState
			}
			w, e := wal.Open(d, hand)
			if e != want || (w == nil) != (e != api.OK) {
				t.Fatalf("hand %d beside %d: %v, %d", hand, busy, w, e)
			}
			if e == api.OK && (len(w.Records()) != 1 || w.Flying()) {
				t.Fatal("another hand's write is taken for the log's")
			}
		}
		if at, n, ok := d.Flying(busy); at != 64 || n != 64 || !ok {
			t.Fatal("the write is not as it was")
		}
		d.Finish(busy)
		if w, e := wal.Open(d, busy); e != api.OK || len(w.Records()) != 0 {
			t.Fatal("behind the write:", e)
		}
	}
}

func TestOpenHasAllStable(t *testing.T) {
	l := three(t)
	b := frames(t, l...)
	d := laid(t, 512, uint32(len(b)), b)
	w, e := wal.Open(d, 3)
	if e != api.OK || w.Stable() != 50 || w.Last() != 50 || w.Kept() != 0 || w.Flying() || w.Room() != 512-64-len(b) {
		t.Fatal("opened:", e, w.Stable(), w.Last(), w.Kept(), w.Flying(), w.Room())
	}
	if w.Force() || w.Done() != api.ErrNone {
		t.Fatal("there is nothing to be forced")
	}
	if w.Append(commit(50, 1)) != api.ErrArg || w.Append(commit(51, 1)) != api.OK {
		t.Fatal("it goes on behind the last one")
	}
	forcedAll(t, w)
	if got := wal.Read(d); !same(got, append(l, commit(51, 1))) {
		t.Fatal("on its device:", got)
	}
}

// Frames that don't count any more are written over.
func TestOpenGoesOnBehindWhatStands(t *testing.T) {
	l := three(t)
	b := frames(t, l...)
	for _, told := range []int{0, 26, 27, 100, 117, 150} {
		d := laid(t, 512, uint32(told), b)
		w, m := opened(t, d, told%8)
		for i := range 5 {
			r := sized(t, w.Last()+16, 100+i, 40+i)
			if e := w.Append(r); e != m.lay(r, false) || e != api.OK {
				t.Fatal("Append:", e)
			}
			m.hold(w, d)
			if i%2 == 1 {
				continue
			}
			if !w.Force() || !m.force() {
				t.Fatal("not forced")
			}
			for range 2 {
				m.hold(w, d)
				if w.Done() != m.done() {
					t.Fatal("not done")
				}
			}
			m.hold(w, d)
		}
	}
}

// The device is the log's own: what others do there is told by it, and what the log does is seen there.
func TestOpenKeepsTheDeviceItself(t *testing.T) {
	d := device(t, 256, nil)
	c := d.Clone()
	w, _ := wal.Open(d, 2)
	mustLay(t, w, commit(17, 1))
	if !w.Force() {
		t.Fatal("not forced")
	}
	if _, _, ok := d.Flying(2); !ok {
		t.Fatal("nothing is under way on the device")
	}
	if _, _, ok := c.Flying(2); ok {
		t.Fatal("something is under way on a clone")
	}
	if w.Done() != api.OK || w.Done() != api.OK || len(wal.Read(d)) != 1 || len(wal.Read(c)) != 0 {
		t.Fatal("not on the device")
	}
}
