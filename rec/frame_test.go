package rec_test

import (
	"bytes"
	"fmt"
	"math/rand"
	"slices"
	"testing"

	"flotilla/api"
	"flotilla/rec"
)

// 5.2 (what is asked of each record's frame stands in wantGood and wantBad), and 5.4 of frames

// frames has one of each kind, the shortest checkpoint's and the longest's.
func frames() []named {
	var l []named
	for _, r := range bases() {
		l = append(l, named{fmt.Sprint("kind ", r.Kind), r})
	}
	return append(l,
		named{"no rows", with(base(check), func(r *api.Record) { r.Txns, r.Dirty = nil, nil })},
		named{"all rows", with(base(check), func(r *api.Record) { r.Txns, r.Dirty = txns(64), dirties(16) })})
}

func TestUnframeOfFewerThanTwo(t *testing.T) {
	wantNoFrame(t, "nil", nil, api.ErrEnd)
	wantNoFrame(t, "no bytes", []byte{}, api.ErrEnd)
	for n := range 256 {
		wantNoFrame(t, "one byte", []byte{byte(n)}, api.ErrEnd)
	}
}

func TestUnframeOfAFrameThatIsCut(t *testing.T) {
	for _, c := range frames() {
		f := framed(laid(c.r))
		for n := range f {
			wantNoFrame(t, fmt.Sprintf("%s, the first %d bytes", c.name, n), f[:n], api.ErrEnd)
		}
	}
}

// TestUnframeOfAFrameThatIsCutInALog has what is cut stand in memory where the rest is there: only what is handed in counts.
func TestUnframeOfAFrameThatIsCutInALog(t *testing.T) {
	log := append(framed(laid(base(commit))), framed(laid(base(update)))...)
	for n := range 27 {
		wantNoFrame(t, "cut in a log", log[:n], api.ErrEnd)
	}
	if r, n, e := rec.Unframe(log[:27]); e != api.OK || n != 27 || !equal(r, base(commit)) {
		t.Error("a frame with room behind:", r, n, e)
	}
}

func TestUnframeOfLengthsThatAreTold(t *testing.T) {
	for _, n := range []int{0, 1, 2, 20, 21, 22, 255, 256, 257, 1015, 32767, 32768, 65534, 65535} {
		b := framed(make([]byte, n))
		wantNoFrame(t, fmt.Sprint("noughts: ", n), b, api.ErrForm)
		wantNoFrame(t, fmt.Sprint("noughts, and one byte too few: ", n), b[:len(b)-1], api.ErrEnd)
		wantNoFrame(t, fmt.Sprint("noughts, and more behind: ", n), append(slices.Clone(b), 1, 2, 3), api.ErrForm)
		b[len(b)-1] ^= 1
		wantNoFrame(t, fmt.Sprint("noughts, not sealed: ", n), b, api.ErrSum)
	}
	wantNoFrame(t, "noughts alone", make([]byte, 512), api.ErrSum) // of no bytes, whose sum isn't 0
}

func TestUnframeOfAFrameWithOneBitTurned(t *testing.T) {
	for _, c := range frames() {
		f := framed(laid(c.r))
		for bit := range 8 * len(f) {
			turned := slices.Clone(f)
			turned[bit/8] ^= 1 << (bit % 8)
			told := int(low.Uint16(turned)) + 6
			want := api.ErrSum
			if told > len(f) {
				want = api.ErrEnd
			}
			name := fmt.Sprintf("%s, bit %d turned", c.name, bit)
			wantNoFrame(t, name, turned, want)
			wantNoFrame(t, name+", and more behind", append(turned, make([]byte, 65536)...), api.ErrSum)
		}
	}
}

func TestUnframeOfOtherSums(t *testing.T) {
	f := framed(laid(base(commit)))
	for i := range 4 {
		for n := 1; n < 256; n++ {
			wantNoFrame(t, "another sum", at(f, len(f)-4+i, f[len(f)-4+i]^byte(n)), api.ErrSum)
		}
	}
	b := laid(base(commit))
	wantNoFrame(t, "the sum without the length", append(f[:2:2], sealed(b)...), api.ErrSum)
	wantNoFrame(t, "the sum's bytes the other way round", append(f[:23:23], f[26], f[25], f[24], f[23]), api.ErrSum)
}

// TestErrorsOfUnframeInTheirOrder has frames of which several errors could be told.
func TestErrorsOfUnframeInTheirOrder(t *testing.T) {
	bad := framed(laid(api.Record{Kind: commit, Lsn: 33, Txn: 7, Prev: 33}))
	wantNoFrame(t, "no record", bad, api.ErrForm)
	wantNoFrame(t, "no record, not sealed", at(bad, len(bad)-1, bad[len(bad)-1]^1), api.ErrSum)
	wantNoFrame(t, "no record, cut", bad[:len(bad)-1], api.ErrEnd)
	wantNoFrame(t, "no record, not sealed, cut", at(bad, 5, 99)[:len(bad)-1], api.ErrEnd)
}

func TestUnframeOfWhatIsSealedAndNoRecord(t *testing.T) {
	for _, c := range frames() {
		b := laid(c.r)
		for n := range b {
			wantNoFrame(t, fmt.Sprintf("%s, the frame of the first %d bytes", c.name, n), framed(b[:n]), api.ErrForm)
		}
		wantNoFrame(t, c.name+", the frame of one byte more", framed(append(b, 0)), api.ErrForm)
		wantNoFrame(t, c.name+", the frame of its frame", framed(framed(laid(c.r))), api.ErrForm)
	}
	from := rand.New(rand.NewSource(52))
	for range 2000 {
		b := make([]byte, from.Intn(100))
		from.Read(b)
		wantNoFrame(t, "random bytes", framed(b), api.ErrForm)
	}
}

func TestUnframeOfAFrameAndAnythingBehind(t *testing.T) {
	from := rand.New(rand.NewSource(53))
	for _, c := range frames() {
		f := framed(laid(c.r))
		random := make([]byte, 100)
		from.Read(random)
		for _, more := range [][]byte{{0}, {255}, {1, 2}, make([]byte, 64), random, f, f[:len(f)-1], f[2:], make([]byte, 1<<20)} {
			r, n, e := rec.Unframe(append(slices.Clone(f), more...))
			if e != api.OK || n != len(f) || !equal(r, c.r) {
				t.Errorf("%s, and %d bytes behind: %v, %d, %d", c.name, len(more), r, n, e)
			}
		}
	}
}

func TestFramesOneBehindTheOther(t *testing.T) {
	var log []byte
	l := limits().good
	for _, c := range l {
		f, _ := rec.Frame(c.r)
		log = append(log, f...)
	}
	for _, c := range l {
		r, n, e := rec.Unframe(log)
		if e != api.OK || n != rec.Size(c.r) || !equal(r, c.r) {
			t.Fatalf("%s: %v, %d, %d", c.name, r, n, e)
		}
		log = log[n:]
	}
	if len(log) > 0 {
		t.Error("left:", len(log))
	}
}

func TestRandomBytesAreNoFrame(t *testing.T) {
	from := rand.New(rand.NewSource(52))
	for range 20000 {
		b := make([]byte, from.Intn(100))
		from.Read(b)
		if len(b) > 1 && from.Intn(4) > 0 {
			b[1] = 0
		}
		want := api.ErrSum
		if len(b) < 2 || len(b) < int(low.Uint16(b))+6 {
			want = api.ErrEnd
		}
		wantNoFrame(t, "random bytes", b, want)
	}
}

func TestSizeIsTheFrames(t *testing.T) {
	for _, c := range limits().good {
		f, _ := rec.Frame(c.r)
		b, _ := rec.Encode(c.r)
		if n := rec.Size(c.r); n != len(f) || n != len(b)+6 {
			t.Errorf("%s: Size %d, the frame has %d, the bytes are %d", c.name, n, len(f), len(b))
		}
		if !bytes.Equal(f[2:len(f)-4], b) {
			t.Errorf("%s: the frame doesn't have the bytes", c.name)
		}
	}
}
