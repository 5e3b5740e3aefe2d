package enc_test

import (
	"bytes"
	"math"
	"strings"
	"testing"

	"flotilla/api"
	"flotilla/enc"
)

// thing is something that is laid, and taken off again.
type thing struct {
	name string
	lay  func(w *enc.Writer)
	same func(r *enc.Reader) bool // takes it off: is it what was laid?
	zero func(r *enc.Reader) bool // takes it off: is it the zero value?
	size int
}

func byteThing(n byte) thing {
	return thing{"Byte", func(w *enc.Writer) { w.Byte(n) },
		func(r *enc.Reader) bool { return r.Byte() == n },
		func(r *enc.Reader) bool { return r.Byte() == 0 }, 1}
}

func twoThing(n uint16) thing {
	return thing{"Two", func(w *enc.Writer) { w.Two(n) },
		func(r *enc.Reader) bool { return r.Two() == n },
		func(r *enc.Reader) bool { return r.Two() == 0 }, 2}
}

func fourThing(n uint32) thing {
	return thing{"Four", func(w *enc.Writer) { w.Four(n) },
		func(r *enc.Reader) bool { return r.Four() == n },
		func(r *enc.Reader) bool { return r.Four() == 0 }, 4}
}

func eightThing(n uint64) thing {
	return thing{"Eight", func(w *enc.Writer) { w.Eight(n) },
		func(r *enc.Reader) bool { return r.Eight() == n },
		func(r *enc.Reader) bool { return r.Eight() == 0 }, 8}
}

func textThing(s string) thing {
	return thing{"Text", func(w *enc.Writer) { w.Text(s) },
		func(r *enc.Reader) bool { return r.Text(len(s)) == s },
		func(r *enc.Reader) bool { return r.Text(math.MaxInt) == "" }, 2 + len(s)}
}

// things has each kind, with the edges of its numbers; none is of zero bytes alone, so that a cut one can't be taken for a whole one.
func things() []thing {
	return []thing{
		byteThing(1), byteThing(0x80), byteThing(0xff),
		twoThing(1), twoThing(0x1234), twoThing(0x8000), twoThing(0xffff),
		fourThing(1), fourThing(0x12345678), fourThing(0x80000000), fourThing(0xffffffff),
		eightThing(1), eightThing(0x123456789abcdef0), eightThing(1 << 63), eightThing(math.MaxUint64),
		textThing("a"), textThing("\x00\xff\x80 key"), textThing(strings.Repeat("long ", 60)),
	}
}

func laid(l ...thing) []byte {
	w := enc.New()
	for _, x := range l {
		x.lay(w)
	}
	return w.Done()
}

func wantErr(t *testing.T, what string, r *enc.Reader, e api.Errno, left int) {
	t.Helper()
	if r.Err() != e || r.Left() != left {
		t.Errorf("%s: Err %d, Left %d; want %d, %d", what, r.Err(), r.Left(), e, left)
	}
}

// wantStuck tells whether a reader with an error answers zero and takes nothing, whatever it is asked for.
func wantStuck(t *testing.T, what string, r *enc.Reader, e api.Errno, left int) {
	t.Helper()
	wantErr(t, what, r, e, left)
	for range 2 {
		if r.Byte() != 0 || r.Two() != 0 || r.Four() != 0 || r.Eight() != 0 {
			t.Errorf("%s: a number behind the error", what)
		}
		if r.Text(math.MaxInt) != "" || r.Text(0) != "" || r.Text(-1) != "" {
			t.Errorf("%s: a text behind the error", what)
		}
		r.Fail(api.ErrBusy)
		if r.End() != e {
			t.Errorf("%s: End %d, want %d", what, r.End(), e)
		}
		wantErr(t, what, r, e, left)
	}
}

// 1.1

func TestWriterLaysLowestByteFirst(t *testing.T) {
	cases := []struct {
		name string
		lay  func(w *enc.Writer)
		want []byte
	}{
		{"nothing", func(w *enc.Writer) {}, nil},
		{"Byte", func(w *enc.Writer) { w.Byte(200) }, []byte{200}},
		{"Two", func(w *enc.Writer) { w.Two(0x0102) }, []byte{2, 1}},
		{"Four", func(w *enc.Writer) { w.Four(0xa1020304) }, []byte{4, 3, 2, 0xa1}},
		{"Eight", func(w *enc.Writer) { w.Eight(0xa102030405060708) }, []byte{8, 7, 6, 5, 4, 3, 2, 0xa1}},
		{"noughts", func(w *enc.Writer) { w.Byte(0); w.Two(0); w.Four(0); w.Eight(0) }, make([]byte, 15)},
		{"empty text", func(w *enc.Writer) { w.Text("") }, []byte{0, 0}},
		{"text", func(w *enc.Writer) { w.Text("ab\x00\xff") }, []byte{4, 0, 'a', 'b', 0, 0xff}},
		{"the example", func(w *enc.Writer) { w.Two(258); w.Text("a") }, []byte{2, 1, 1, 0, 97}},
		{"one behind the other", func(w *enc.Writer) { w.Byte(9); w.Text("k"); w.Four(7) }, []byte{9, 1, 0, 'k', 7, 0, 0, 0}},
	}
	for _, c := range cases {
		w := enc.New()
		c.lay(w)
		if got := w.Done(); !bytes.Equal(got, c.want) {
			t.Errorf("%s: %v, want %v", c.name, got, c.want)
		}
	}
}

func TestWriterCutsTextsAt65535(t *testing.T) {
	long := strings.Repeat("0123456789", 20000)
	for _, n := range []int{255, 256, 257, 65534, 65535, 65536, 65537, 131071, 131072, len(long)} {
		w := enc.New()
		w.Text(long[:n])
		w.Byte(77)
		most := min(n, 65535)
		want := append([]byte{byte(most), byte(most >> 8)}, long[:most]...)
		want = append(want, 77)
		if !bytes.Equal(w.Done(), want) {
			t.Errorf("a text of %d bytes isn't laid as its first %d", n, most)
		}
	}
}

func TestWriterGoesOnBehindDone(t *testing.T) {
	w := enc.New()
	w.Byte(1)
	a, b := w.Done(), w.Done()
	if !bytes.Equal(a, []byte{1}) || !bytes.Equal(b, a) {
		t.Fatal("Done twice:", a, b)
	}
	w.Byte(2)
	if got := w.Done(); !bytes.Equal(got, []byte{1, 2}) {
		t.Fatal("behind Done:", got)
	}
}

func TestWritersAreApart(t *testing.T) {
	a, b := enc.New(), enc.New()
	a.Byte(1)
	b.Byte(2)
	if !bytes.Equal(a.Done(), []byte{1}) || !bytes.Equal(b.Done(), []byte{2}) {
		t.Fatal("two writers share:", a.Done(), b.Done())
	}
}

func TestNilWriter(t *testing.T) {
	var w *enc.Writer
	for _, x := range things() {
		x.lay(w)
	}
	if got := w.Done(); len(got) != 0 {
		t.Fatal("a nil writer has", got)
	}
}

func TestDoneIsNewMemory(t *testing.T) {
	w := enc.New()
	w.Text("abcdef")
	first := w.Done()
	kept := bytes.Clone(first)
	for i := range first {
		first[i] = 99
	}
	_ = append(first, 98, 98)
	if !bytes.Equal(w.Done(), kept) {
		t.Fatal("a changed answer changes the writer:", w.Done())
	}
	second := w.Done()
	w.Two(0x0101)
	_ = append(second, 97, 97)
	if !bytes.Equal(w.Done(), append(kept, 1, 1)) {
		t.Fatal("the room behind an answer is the writer's:", w.Done())
	}
}

// 1.2

func TestReaderTakesLowestByteFirst(t *testing.T) {
	r := enc.Read([]byte{200, 2, 1, 4, 3, 2, 0xa1, 8, 7, 6, 5, 4, 3, 2, 0xa1, 2, 0, 'h', 'i', 0, 0, 5})
	if n := r.Byte(); n != 200 || r.Left() != 21 {
		t.Error("Byte:", n, r.Left())
	}
	if n := r.Two(); n != 0x0102 || r.Left() != 19 {
		t.Error("Two:", n, r.Left())
	}
	if n := r.Four(); n != 0xa1020304 || r.Left() != 15 {
		t.Error("Four:", n, r.Left())
	}
	if n := r.Eight(); n != 0xa102030405060708 || r.Left() != 7 {
		t.Error("Eight:", n, r.Left())
	}
	if s := r.Text(16); s != "hi" || r.Left() != 3 {
		t.Error("Text:", s, r.Left())
	}
	if s := r.Text(0); s != "" || r.Left() != 1 {
		t.Error("an empty text:", s, r.Left())
	}
	if n := r.Byte(); n != 5 || r.Left() != 0 || r.Err() != api.OK || r.End() != api.OK {
		t.Error("the last byte:", n, r.Left(), r.Err(), r.End())
	}
}

func TestNumbersEndTooEarly(t *testing.T) {
	for _, x := range things() {
		if x.name == "Text" {
			continue
		}
		for n := range x.size {
			r := enc.Read(bytes.Repeat([]byte{7}, n))
			if !x.zero(r) {
				t.Errorf("%s of %d bytes isn't zero", x.name, n)
			}
			wantStuck(t, x.name, r, api.ErrEnd, n)
		}
	}
}

func TestTextEdges(t *testing.T) {
	cases := []struct {
		name string
		b    []byte
		most int
		want string
		err  api.Errno
		left int
	}{
		{"nothing", nil, 9, "", api.ErrEnd, 0},
		{"one byte", []byte{0}, 9, "", api.ErrEnd, 1},
		{"one byte, most below 0", []byte{9}, -1, "", api.ErrEnd, 1},
		{"most at the length", []byte{2, 0, 'a', 'b', 'c'}, 2, "ab", api.OK, 1},
		{"most above the length", []byte{2, 0, 'a', 'b', 'c'}, 3, "ab", api.OK, 1},
		{"most below the length", []byte{2, 0, 'a', 'b', 'c'}, 1, "", api.ErrLong, 5},
		{"most 0, empty", []byte{0, 0, 7}, 0, "", api.OK, 1},
		{"most below 0, empty", []byte{0, 0, 7}, -1, "", api.OK, 1},
		{"least most, empty", []byte{0, 0}, math.MinInt, "", api.OK, 0},
		{"most 0, one", []byte{1, 0, 'a'}, 0, "", api.ErrLong, 3},
		{"most below 0, one", []byte{1, 0, 'a'}, -5, "", api.ErrLong, 3},
		{"least most, one", []byte{1, 0, 'a'}, math.MinInt, "", api.ErrLong, 3},
		{"greatest most", []byte{1, 0, 'a'}, math.MaxInt, "a", api.OK, 0},
		{"all there", []byte{3, 0, 'a', 'b', 'c'}, 9, "abc", api.OK, 0},
		{"one too few", []byte{3, 0, 'a', 'b'}, 9, "", api.ErrEnd, 4},
		{"only its length", []byte{3, 0}, 3, "", api.ErrEnd, 2},
		{"both: above most, and too few", []byte{5, 0, 97}, 4, "", api.ErrLong, 3},
		{"the example", []byte{5, 0, 97}, 9, "", api.ErrEnd, 3},
		{"length by its high byte", []byte{0, 1, 'a'}, 255, "", api.ErrLong, 3},
		{"greatest length", []byte{255, 255, 'a'}, math.MaxInt, "", api.ErrEnd, 3},
	}
	for _, c := range cases {
		r := enc.Read(c.b)
		if got := r.Text(c.most); got != c.want {
			t.Errorf("%s: %q, want %q", c.name, got, c.want)
		}
		wantErr(t, c.name, r, c.err, c.left)
		if c.err != api.OK {
			wantStuck(t, c.name, r, c.err, c.left)
		}
	}
}

func TestLongestText(t *testing.T) {
	s := strings.Repeat("z", 65535)
	b := append([]byte{255, 255}, s...)
	if r := enc.Read(b); r.Text(65535) != s || r.End() != api.OK {
		t.Error("a text of 65,535 bytes isn't taken off")
	}
	r := enc.Read(b)
	if r.Text(65534) != "" {
		t.Error("a text above most is taken off")
	}
	wantStuck(t, "most 65,534", r, api.ErrLong, len(b))
	r = enc.Read(b[:len(b)-1])
	if r.Text(65535) != "" {
		t.Error("a text that ends too early is taken off")
	}
	wantStuck(t, "one byte too few", r, api.ErrEnd, len(b)-1)
}

func TestReaderKeepsNothingOfItsArgument(t *testing.T) {
	b := []byte{1, 2, 3, 0, 'a', 'b', 'c', 9}
	was := bytes.Clone(b)
	r := enc.Read(b)
	for i := range b {
		b[i] = 55
	}
	n := r.Two()
	s := r.Text(3)
	if n != 0x0201 || s != "abc" || r.Byte() != 9 || r.End() != api.OK {
		t.Fatal("a changed argument changes the reader:", n, s, r.End())
	}
	r = enc.Read(was)
	kept := bytes.Clone(was)
	r.Two()
	r.Text(3)
	r.Eight()
	if !bytes.Equal(was, kept) {
		t.Fatal("the argument was changed:", was)
	}
}

func TestReadersOfOneRowAreApart(t *testing.T) {
	b := []byte{1, 2, 3, 4}
	p, q := enc.Read(b), enc.Read(b)
	p.Two()
	p.Fail(api.ErrSum)
	if q.Four() != 0x04030201 || q.End() != api.OK {
		t.Fatal("two readers share:", q.Err(), q.Left())
	}
}

// 1.3

func TestFirstErrorStays(t *testing.T) {
	r := enc.Read([]byte{1, 2, 3})
	r.Eight()
	wantStuck(t, "ErrEnd", r, api.ErrEnd, 3)
	r = enc.Read([]byte{1, 2, 3})
	r.Byte()
	r.Text(1)
	wantStuck(t, "ErrLong", r, api.ErrLong, 2)
}

func TestFail(t *testing.T) {
	for e := api.ErrArg; e <= api.ErrBusy; e++ {
		r := enc.Read([]byte{1, 2, 3, 0, 'x', 6, 7, 8})
		r.Byte()
		r.Fail(e)
		wantStuck(t, "Fail", r, e, 7)
		r.Fail(api.OK)
		wantStuck(t, "Fail(OK) behind an error", r, e, 7)
	}
	r := enc.Read(nil)
	r.Fail(api.ErrSum)
	wantStuck(t, "Fail with nothing left", r, api.ErrSum, 0)
}

func TestFailOKIsNoError(t *testing.T) {
	r := enc.Read([]byte{4, 5})
	r.Fail(api.OK)
	if r.Err() != api.OK || r.Byte() != 4 {
		t.Fatal("Fail(OK) is an error:", r.Err())
	}
	r.Fail(api.ErrForm)
	wantStuck(t, "behind Fail(OK)", r, api.ErrForm, 1)
}

func TestEnd(t *testing.T) {
	for _, b := range [][]byte{nil, {}} {
		if r := enc.Read(b); r.End() != api.OK || r.Err() != api.OK || r.Left() != 0 {
			t.Error("nothing at all:", r.End(), r.Err(), r.Left())
		}
	}
	r := enc.Read([]byte{8, 9})
	for left := 2; left > 0; left-- {
		if r.End() != api.ErrForm || r.End() != api.ErrForm {
			t.Errorf("End with %d left: %d", left, r.End())
		}
		wantErr(t, "End gives the reader no error", r, api.OK, left)
		if n := r.Byte(); int(n) != 10-left {
			t.Error("behind End:", n)
		}
	}
	if r.End() != api.OK {
		t.Error("End with nothing left:", r.End())
	}
	r.Byte()
	wantStuck(t, "behind the end", r, api.ErrEnd, 0)
}

func TestNilReader(t *testing.T) {
	var r *enc.Reader
	wantStuck(t, "nil", r, api.ErrArg, 0)
	r.Fail(api.OK)
	wantStuck(t, "nil behind Fail", r, api.ErrArg, 0)
}

// 1.4

func TestThereAndBack(t *testing.T) {
	l := things()
	l = append(l, byteThing(0), twoThing(0), fourThing(0), eightThing(0), textThing(""), textThing(strings.Repeat("y", 65535)))
	for i := range l {
		row := append(append([]thing{}, l[i:]...), l[:i]...)
		b := laid(row...)
		r, left := enc.Read(b), len(b)
		for _, x := range row {
			left -= x.size
			if !x.same(r) || r.Left() != left {
				t.Fatalf("%s isn't taken off as it was laid: %d left, want %d", x.name, r.Left(), left)
			}
		}
		if r.End() != api.OK {
			t.Fatal("all is taken off:", r.End())
		}
	}
}

func TestCutAnywhere(t *testing.T) {
	l := things()
	b := laid(l...)
	for cut := range len(b) {
		r, left := enc.Read(b[:cut]), cut
		for _, x := range l {
			if left < x.size {
				if !x.zero(r) {
					t.Fatalf("cut at %d: %s that was cut isn't zero", cut, x.name)
				}
				break
			}
			left -= x.size
			if !x.same(r) {
				t.Fatalf("cut at %d: %s ahead of the cut is another one", cut, x.name)
			}
		}
		wantStuck(t, "cut", r, api.ErrEnd, left)
	}
}

// P1: any calls at all over any bytes end without a panic, and never take more than there is.
func TestAnyCallsOverAnyBytes(t *testing.T) {
	seed := uint32(1)
	next := func(n int) int {
		seed = seed*1664525 + 1013904223
		return int(seed>>8) % n
	}
	for range 3000 {
		b := make([]byte, next(24))
		for i := range b {
			b[i] = byte(next(6))
		}
		r := enc.Read(b)
		for range 12 {
			err, left := r.Err(), r.Left()
			switch next(7) {
			case 0:
				r.Byte()
			case 1:
				r.Two()
			case 2:
				r.Four()
			case 3:
				r.Eight()
			case 4:
				r.Text(next(12) - 4)
			case 5:
				r.Fail(api.Errno(next(30) * next(2)))
			case 6:
				r.End()
			}
			if r.Err() != api.OK && r.Left() != left || err != api.OK && r.Err() != err || r.Left() < 0 || r.Left() > left {
				t.Fatalf("of %v: from Err %d, Left %d to Err %d, Left %d", b, err, left, r.Err(), r.Left())
			}
		}
	}
}
