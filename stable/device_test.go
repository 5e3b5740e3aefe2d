package stable_test

import (
	"math"
	"testing"

	"flotilla/api"
	"flotilla/stable"
)

// 8.1

func TestNew(t *testing.T) {
	for _, size := range []int{0, 64, 128, 192, 512, 4096, 32768, 65472, 65536} {
		d, e := stable.New(size)
		if e != api.OK || d == nil || d.Size() != size {
			t.Fatalf("New(%d): %v, size %d", size, e, d.Size())
		}
		newModel(size).same(t, d, "new")
	}
}

func TestNewEveryMultiple(t *testing.T) {
	for size := -130; size <= 65536+130; size++ {
		d, e := stable.New(size)
		if size < 0 || size > 65536 || size%64 != 0 {
			if d != nil || e != api.ErrArg {
				t.Fatalf("New(%d): %v, %v", size, d, e)
			}
		} else if d == nil || e != api.OK || d.Size() != size {
			t.Fatalf("New(%d): %v, %v", size, d, e)
		}
	}
}

func TestNewWrong(t *testing.T) {
	for _, size := range []int{-1, -63, -64, -128, -65536, math.MinInt, math.MinInt + 1, 1, 63, 65, 127, 65535, 65537, 65600, 131072, 1 << 32, 1<<32 + 64, math.MaxInt, math.MaxInt - 63} {
		d, e := stable.New(size)
		if d != nil || e != api.ErrArg {
			t.Errorf("New(%d): %v, %v", size, d, e)
		}
	}
}

func TestDevicesShareNothing(t *testing.T) {
	a, b := made(t, 64), made(t, 64)
	want(t, "Start", a.Start(0, 0, fill(64, 1)), api.OK)
	newModel(64).same(t, b, "beside one with a write under way")
	want(t, "Finish", a.Finish(0), api.OK)
	newModel(64).same(t, b, "beside one that was written to")
}

// counted is a device whose bytes differ from one another, and what it has.
func counted(t *testing.T, size int) (*stable.Device, []byte) {
	t.Helper()
	d := made(t, size)
	b := make([]byte, size)
	for i := range b {
		b[i] = byte(i%251 + 1)
	}
	want(t, "Start", d.Start(0, 0, b), api.OK)
	want(t, "Finish", d.Finish(0), api.OK)
	return d, b
}

func TestReadEveryPlace(t *testing.T) {
	d, b := counted(t, 192)
	for at := -2; at <= 194; at++ {
		for n := -2; n <= 194; n++ {
			x, e := d.Read(at, n)
			if at < 0 || n < 0 || at+n > 192 {
				if len(x) != 0 || e != api.ErrRange {
					t.Fatalf("Read(%d, %d): %v, %v", at, n, x, e)
				}
			} else if e != api.OK || string(x) != string(b[at:at+n]) {
				t.Fatalf("Read(%d, %d): %v, %v", at, n, x, e)
			}
		}
	}
}

func TestReadEdges(t *testing.T) {
	d, b := counted(t, 65536)
	for _, c := range []struct {
		at, n int
		e     api.Errno
	}{
		{0, 65536, api.OK},
		{0, 65537, api.ErrRange},
		{1, 65535, api.OK},
		{1, 65536, api.ErrRange},
		{65535, 1, api.OK},
		{65535, 2, api.ErrRange},
		{65536, 0, api.OK},
		{65536, 1, api.ErrRange},
		{65537, 0, api.ErrRange},
		{65537, -1, api.ErrRange},
		{0, 0, api.OK},
		{-1, 0, api.ErrRange},
		{-1, 1, api.ErrRange},
		{-64, 64, api.ErrRange},
		{-64, 128, api.ErrRange},
		{0, -1, api.ErrRange},
		{64, -64, api.ErrRange},
		{-1, -1, api.ErrRange},
		{math.MaxInt, 0, api.ErrRange},
		{math.MaxInt, 1, api.ErrRange},
		{math.MaxInt, math.MaxInt, api.ErrRange},
		{math.MaxInt, math.MinInt, api.ErrRange},
		{math.MinInt, math.MaxInt, api.ErrRange},
		{math.MinInt, math.MinInt, api.ErrRange},
		{math.MinInt, 0, api.ErrRange},
		{0, math.MaxInt, api.ErrRange},
		{1, math.MaxInt, api.ErrRange},
		{0, math.MinInt, api.ErrRange},
		{65536, math.MaxInt, api.ErrRange},
	} {
		x, e := d.Read(c.at, c.n)
		if e != c.e {
			t.Errorf("Read(%d, %d): %v, and should be %v", c.at, c.n, e, c.e)
		}
		if e != api.OK && len(x) != 0 || e == api.OK && string(x) != string(b[c.at:c.at+c.n]) {
			t.Errorf("Read(%d, %d): %d bytes, of which some are wrong", c.at, c.n, len(x))
		}
	}
}

func TestReadOfNoBytes(t *testing.T) {
	d := made(t, 0)
	for _, c := range []struct {
		at, n int
		e     api.Errno
	}{{0, 0, api.OK}, {0, 1, api.ErrRange}, {1, 0, api.ErrRange}, {-1, 0, api.ErrRange}, {1, -1, api.ErrRange}} {
		if x, e := d.Read(c.at, c.n); len(x) != 0 || e != c.e {
			t.Errorf("Read(%d, %d): %v, %v", c.at, c.n, x, e)
		}
	}
}

func TestReadIsItsCallersOwn(t *testing.T) {
	d, b := counted(t, 192)
	x, _ := d.Read(64, 64)
	y, _ := d.Read(64, 64)
	for i := range x {
		x[i] = 0
	}
	x = append(x, 0, 0, 0)
	clear(x[:cap(x)])
	wantBytes(t, d, b, "behind an answer that was written over")
	if string(y) != string(b[64:128]) {
		t.Fatal("two answers share memory")
	}
	want(t, "Start", d.Start(1, 64, fill(64, 9)), api.OK)
	want(t, "Finish", d.Finish(1), api.OK)
	if string(y) != string(b[64:128]) {
		t.Fatal("an answer changes with the device")
	}
	want(t, "Trim", d.Trim(0), api.OK)
	if string(y) != string(b[64:128]) {
		t.Fatal("an answer changes with the device")
	}
}

// 8.3: Trim

func TestTrim(t *testing.T) {
	for _, c := range []struct{ at, from int }{
		{0, 0}, {1, 64}, {32, 64}, {63, 64}, {64, 64}, {65, 128}, {127, 128}, {128, 128}, {129, 192}, {191, 192}, {192, 192},
	} {
		d, b := counted(t, 192)
		want(t, "Trim", d.Trim(c.at), api.OK)
		clear(b[c.from:])
		wantBytes(t, d, b, "trimmed")
	}
}

func TestTrimEveryPlace(t *testing.T) {
	for at := range 65537 {
		if at > 200 && at < 65300 && at%97 != 0 {
			continue
		}
		d, b := counted(t, 65536)
		want(t, "Trim", d.Trim(at), api.OK)
		for i := range b {
			if i/64*64 >= at {
				b[i] = 0
			}
		}
		wantBytes(t, d, b, "trimmed")
	}
}

func TestTrimWrong(t *testing.T) {
	d, b := counted(t, 192)
	for _, at := range []int{-1, -63, -64, -192, math.MinInt, math.MinInt + 64, 193, 255, 256, 65536, 1 << 32, math.MaxInt, math.MaxInt - 62, math.MaxInt - 63} {
		want(t, "Trim", d.Trim(at), api.ErrRange)
		wantBytes(t, d, b, "behind a Trim that was refused")
	}
}

func TestTrimOfNoBytes(t *testing.T) {
	d := made(t, 0)
	want(t, "Trim(0)", d.Trim(0), api.OK)
	want(t, "Trim(1)", d.Trim(1), api.ErrRange)
	want(t, "Trim(-1)", d.Trim(-1), api.ErrRange)
	newModel(0).same(t, d, "trimmed")
}

func TestTrimTwice(t *testing.T) {
	d, b := counted(t, 256)
	want(t, "Trim", d.Trim(128), api.OK)
	want(t, "Trim", d.Trim(200), api.OK)
	clear(b[128:])
	wantBytes(t, d, b, "trimmed twice")
	want(t, "Trim", d.Trim(1), api.OK)
	clear(b[64:])
	wantBytes(t, d, b, "trimmed three times")
}

func TestTrimLeavesWhatIsUnderWay(t *testing.T) {
	for _, at := range []int{0, 64, 128} {
		d, _ := counted(t, 192)
		want(t, "Start", d.Start(3, 64, sectors(7, 8)), api.OK)
		want(t, "Trim", d.Trim(at), api.OK)
		if at, n, ok := d.Flying(3); at != 64 || n != 128 || !ok {
			t.Fatalf("behind Trim Flying is %d, %d, %v", at, n, ok)
		}
		b, _ := d.Read(0, 192)
		want(t, "Finish", d.Finish(3), api.OK)
		copy(b[64:], sectors(7, 8))
		wantBytes(t, d, b, "behind Trim and Finish")
	}
}

// 8.3: Clone

func TestClone(t *testing.T) {
	d, b := counted(t, 256)
	want(t, "Start", d.Start(2, 0, sectors(5)), api.OK)
	want(t, "Start", d.Start(7, 64, sectors(6, 7, 8)), api.OK)
	m := newModel(256)
	m.bytes = string(b)
	m.under[2] = flight{0, string(sectors(5))}
	m.under[7] = flight{64, string(sectors(6, 7, 8))}
	c := d.Clone()
	m.same(t, c, "a clone")
	m.same(t, d, "what was cloned")

	n := m.clone()
	want(t, "Finish", d.Finish(7), m.finish(7))
	m.same(t, d, "gone on")
	n.same(t, c, "its clone")
	want(t, "Crash", c.Crash(7, 1), n.crash(7, 1))
	want(t, "Start", c.Start(7, 192, sectors(9)), n.start(7, 192, string(sectors(9))))
	want(t, "Start", c.Start(0, 0, sectors(4)), n.start(0, 0, string(sectors(4))))
	m.same(t, d, "what was cloned")
	n.same(t, c, "a clone that went on")
	want(t, "Trim", d.Trim(0), m.trim(0))
	m.same(t, d, "trimmed")
	n.same(t, c, "a clone of what was trimmed")
	want(t, "Finish", c.Finish(2), n.finish(2))
	want(t, "Finish", d.Finish(2), m.finish(2))
	m.same(t, d, "at the end")
	n.same(t, c, "at the end")
}

func TestCloneOfNoBytes(t *testing.T) {
	c := made(t, 0).Clone()
	if c == nil {
		t.Fatal("nil")
	}
	newModel(0).same(t, c, "a clone")
}

func TestCloneOfAClone(t *testing.T) {
	d := made(t, 64)
	want(t, "Start", d.Start(0, 0, sectors(1)), api.OK)
	c := d.Clone()
	e := c.Clone()
	want(t, "Crash", c.Crash(0, 0), api.OK)
	want(t, "Finish", e.Finish(0), api.OK)
	wantBytes(t, d, sectors(0), "the first one")
	wantBytes(t, c, sectors(0), "its clone")
	wantBytes(t, e, sectors(1), "its clone's clone")
	want(t, "Finish", d.Finish(0), api.OK)
	wantBytes(t, d, sectors(1), "the first one")
}

// 8.3: a nil device

func TestNilDevice(t *testing.T) {
	var d *stable.Device
	if d.Size() != 0 || d.Clone() != nil {
		t.Fatal("Size or Clone of nil")
	}
	for _, x := range numbers() {
		for _, y := range []int{-64, -1, 0, 1, 64, math.MaxInt, math.MinInt} {
			if b, e := d.Read(x, y); len(b) != 0 || e != api.ErrArg {
				t.Fatalf("Read(%d, %d): %v, %v", x, y, b, e)
			}
			for _, n := range []int{0, 1, 64, 128} {
				want(t, "Start", d.Start(x, y, fill(n, 1)), api.ErrArg)
				want(t, "Start", d.Start(y, x, fill(n, 1)), api.ErrArg)
			}
			want(t, "Crash", d.Crash(x, y), api.ErrArg)
		}
		want(t, "Start", d.Start(0, x, nil), api.ErrArg)
		want(t, "Finish", d.Finish(x), api.ErrArg)
		want(t, "Trim", d.Trim(x), api.ErrArg)
		if at, n, ok := d.Flying(x); at != 0 || n != 0 || ok {
			t.Fatalf("Flying(%d): %d, %d, %v", x, at, n, ok)
		}
	}
}
