package stable_test

import (
	"fmt"
	"math"
	"math/rand"
	"testing"

	"flotilla/api"
	"flotilla/stable"
)

// 8.4

// A sector has what it had, or all of what was to stand there.
func TestNoSectorIsTorn(t *testing.T) {
	for n := -1; n <= 9; n++ {
		d, old := counted(t, 512)
		fresh := make([]byte, 448)
		for i := range fresh {
			fresh[i] = 255 - old[64+i]
		}
		want(t, "Start", d.Start(1, 64, fresh), api.OK)
		want(t, "Crash", d.Crash(1, n), api.OK)
		b, _ := d.Read(0, 512)
		for s := 0; s < 512; s += 64 {
			has := string(b[s : s+64])
			switch {
			case s >= 64 && s/64 <= n:
				if has != string(fresh[s-64:s]) {
					t.Fatalf("Crash(1, %d): the sector at %d isn't the new one", n, s)
				}
			case has != string(old[s:s+64]):
				t.Fatalf("Crash(1, %d): the sector at %d isn't the old one", n, s)
			}
		}
	}
}

// orders has all orders of the numbers 0 to n - 1.
func orders(n int) [][]int {
	if n == 0 {
		return [][]int{nil}
	}
	var l [][]int
	for _, o := range orders(n - 1) {
		for i := range n {
			p := append([]int(nil), o[:i]...)
			l = append(l, append(append(p, n-1), o[i:]...))
		}
	}
	return l
}

// Hands that write to places that don't meet don't know of one another: who is done first, and who crashes where, changes nothing of what the others leave.
func TestHandsApart(t *testing.T) {
	ends := []int{2, 0, 1, 5, -1}
	for _, order := range orders(5) {
		d := made(t, 640)
		for hand := range 5 {
			want(t, "Start", d.Start(hand, hand*128, fill(128, byte(hand+1))), api.OK)
		}
		b := make([]byte, 640)
		for _, hand := range order {
			want(t, "Crash", d.Crash(hand, ends[hand]), api.OK)
			copy(b[hand*128:], fill(64*max(0, min(2, ends[hand])), byte(hand+1)))
			wantBytes(t, d, b, fmt.Sprint("order ", order, ", behind ", hand))
		}
		wantBytes(t, d, sectors(1, 1, 0, 0, 3, 0, 4, 4, 0, 0), fmt.Sprint("order ", order))
	}
}

// Where places meet, what comes to stand there later stands over what did earlier, whoever began first.
func TestHandsThatMeet(t *testing.T) {
	d := made(t, 256)
	want(t, "Start", d.Start(0, 0, sectors(1, 1, 1)), api.OK)
	want(t, "Start", d.Start(1, 64, sectors(2, 2, 2)), api.OK)
	want(t, "Start", d.Start(2, 64, sectors(3)), api.OK)
	want(t, "Finish", d.Finish(1), api.OK)
	wantBytes(t, d, sectors(0, 2, 2, 2), "behind 1")
	want(t, "Crash", d.Crash(0, 2), api.OK)
	wantBytes(t, d, sectors(1, 1, 2, 2), "behind 0")
	want(t, "Finish", d.Finish(2), api.OK)
	wantBytes(t, d, sectors(1, 3, 2, 2), "behind 2")
}

// What stands there stays, whoever crashes.
func TestWhatStandsStays(t *testing.T) {
	d, b := counted(t, 512)
	for hand := range 8 {
		want(t, "Start", d.Start(hand, hand*64, fill(64, 250)), api.OK)
	}
	for hand := range 8 {
		want(t, "Crash", d.Crash(hand, -hand), api.OK)
		wantBytes(t, d, b, "behind a crash that leaves nothing")
	}
	for hand := range 8 {
		want(t, "Crash", d.Crash(hand, 8), api.ErrNone)
		wantBytes(t, d, b, "behind a crash of nothing")
	}
	want(t, "Start", d.Start(4, 128, fill(64, 9)), api.OK)
	want(t, "Start", d.Start(5, 192, fill(64, 10)), api.OK)
	want(t, "Finish", d.Finish(4), api.OK)
	copy(b[128:], fill(64, 9))
	want(t, "Crash", d.Crash(4, 0), api.ErrNone)
	want(t, "Crash", d.Crash(5, 0), api.OK)
	wantBytes(t, d, b, "behind the crash of another one")
}

// walk is a device and its model, told the same.
type walk struct {
	r *rand.Rand
	d *stable.Device
	m *model
}

func (w *walk) hand() int { return w.r.Intn(10) - 1 }

func (w *walk) place() int {
	if w.r.Intn(8) == 0 {
		l := numbers()
		return l[w.r.Intn(len(l))]
	}
	return 64*w.r.Intn(len(w.m.bytes)/64+3) - 64
}

func (w *walk) bytes() []byte {
	n := 64 * w.r.Intn(5)
	if w.r.Intn(8) == 0 {
		n = w.r.Intn(260)
	}
	b := make([]byte, n)
	w.r.Read(b)
	return b
}

// step does one thing to both, and tells what it was.
func (w *walk) step(t *testing.T) string {
	hand, at := w.hand(), w.place()
	switch w.r.Intn(8) {
	case 0, 1, 2:
		b := w.bytes()
		s := string(b)
		what := fmt.Sprintf("Start(%d, %d, %d bytes)", hand, at, len(b))
		want(t, what, w.d.Start(hand, at, b), w.m.start(hand, at, s))
		if string(b) != s {
			t.Fatalf("%s: its argument was changed", what)
		}
		w.r.Read(b)
		return what
	case 3, 4:
		what := fmt.Sprintf("Finish(%d)", hand)
		want(t, what, w.d.Finish(hand), w.m.finish(hand))
		return what
	case 5:
		n := w.r.Intn(8) - 2
		what := fmt.Sprintf("Crash(%d, %d)", hand, n)
		want(t, what, w.d.Crash(hand, n), w.m.crash(hand, n))
		return what
	case 6:
		n := w.place()
		what := fmt.Sprintf("Read(%d, %d)", at, n)
		b, e := w.d.Read(at, n)
		s, f := w.m.read(at, n)
		want(t, what, e, f)
		if string(b) != s {
			t.Fatalf("%s: wrong bytes", what)
		}
		w.r.Read(b)
		return what
	}
	if w.r.Intn(4) > 0 {
		return "nothing"
	}
	at += w.r.Intn(130) - 65
	what := fmt.Sprintf("Trim(%d)", at)
	want(t, what, w.d.Trim(at), w.m.trim(at))
	return what
}

func TestWalks(t *testing.T) {
	for seed := range 300 {
		r := rand.New(rand.NewSource(int64(seed)))
		size := 64 * r.Intn(12)
		l := []*walk{{r, made(t, size), newModel(size)}}
		for range 150 {
			w := l[r.Intn(len(l))]
			what := fmt.Sprintf("seed %d, %s", seed, w.step(t))
			for _, w := range l {
				w.m.same(t, w.d, what)
			}
			if len(l) < 4 && r.Intn(40) == 0 {
				l = append(l, &walk{r, w.d.Clone(), w.m.clone()})
			}
		}
	}
}

// What a call answers hangs on the device and its arguments alone: two devices that are told the same tell the same.
func TestTheSameTwice(t *testing.T) {
	for seed := range 20 {
		tell := func() string {
			r := rand.New(rand.NewSource(int64(seed)))
			w := &walk{r, made(t, 512), newModel(512)}
			s := ""
			for range 100 {
				s += w.step(t)
				b, _ := w.d.Read(0, 512)
				s += string(b)
			}
			return s
		}
		if tell() != tell() {
			t.Fatal("two devices that were told the same differ")
		}
	}
}

// P1

func TestNoPanic(t *testing.T) {
	for _, size := range []int{0, 64, 192, 65536} {
		d, m := made(t, size), newModel(size)
		for _, x := range numbers() {
			for _, y := range numbers() {
				b, e := d.Read(x, y)
				s, f := m.read(x, y)
				if string(b) != s || e != f {
					t.Fatalf("size %d: Read(%d, %d): %v", size, x, y, e)
				}
				want(t, fmt.Sprintf("Crash(%d, %d)", x, y), d.Crash(x, y), m.crash(x, y))
				for _, n := range []int{0, 1, 64, 128, 65536} {
					want(t, fmt.Sprintf("Start(%d, %d, %d bytes)", x, y, n), d.Start(x, y, make([]byte, n)), m.start(x, y, string(make([]byte, n))))
				}
			}
			d.Flying(x)
			want(t, fmt.Sprintf("Trim(%d)", x), d.Trim(x), m.trim(x))
			want(t, fmt.Sprintf("Finish(%d)", x), d.Finish(x), m.finish(x))
		}
		m.same(t, d, "at the end")
	}
	for _, x := range append(numbers(), math.MaxInt-2) {
		stable.New(x)
	}
}
