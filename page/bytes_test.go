package page_test

import (
	"bytes"
	"fmt"
	"math"
	"math/rand"
	"slices"
	"testing"

	"flotilla/api"
	"flotilla/page"
)

// 6.1, and 6.4 of bytes

// wantNoPage asks that bytes are no page's, and that Parse leaves them.
func wantNoPage(t *testing.T, what string, id int, b []byte, want api.Errno) {
	t.Helper()
	was := slices.Clone(b)
	if p, e := page.Parse(id, b); e != want || p != nil {
		t.Errorf("%s: %v, %d, and should be nil, %d", what, p, e, want)
	}
	if !bytes.Equal(b, was) {
		t.Errorf("%s: the bytes were changed", what)
	}
}

func wrongIDs() []int {
	return []int{math.MinInt, math.MinInt32, -1 << 32, -1 << 16, -16, -1, 16, 17, 255, 256, 1 << 16, 1<<16 + 3, 1 << 32, 1<<32 + 3, math.MaxInt}
}

func TestNew(t *testing.T) {
	for id := range 16 {
		x := begin(t, id)
		if x.p.ID() != id || x.p.Lsn() != 0 || x.p.Free() != 496 || len(x.p.Cells()) > 0 || len(x.p.Pairs()) > 0 {
			t.Error("a new page:", x.p)
		}
	}
	for _, id := range wrongIDs() {
		if p, e := page.New(id); p != nil || e != api.ErrArg {
			t.Errorf("New(%d): %v, %d", id, p, e)
		}
	}
}

// example is the chapter's: page 3 with a for x.
func example(t *testing.T) *page.Page {
	t.Helper()
	p, e := page.New(3)
	if e != api.OK || p.Insert("a", "x") != api.OK {
		t.Fatal("the example:", e)
	}
	return p
}

func TestExampleByteByByte(t *testing.T) {
	p := example(t)
	if p.Free() != 489 {
		t.Error("Free:", p.Free())
	}
	b := p.Bytes()
	want := make([]byte, 512)
	want[12] = 3   // the id
	want[14] = 1   // one slot
	want[16] = 253 // its cell begins at 509
	want[17] = 1
	want[18] = 3 // and has three bytes
	want[509], want[510], want[511] = 1, 'a', 'x'
	if len(b) != 512 {
		t.Fatal("bytes:", len(b))
	}
	for i := 4; i < 512; i++ {
		if b[i] != want[i] {
			t.Errorf("byte %d: %d, and should be %d", i, b[i], want[i])
		}
	}
	if !bytes.Equal(b, sealed(want)) {
		t.Error("the sum:", b[:4])
	}
}

// TestNumbersLowestFirst has all bytes of the numbers differ.
func TestNumbersLowestFirst(t *testing.T) {
	p := example(t)
	p.Stamp(0x0807060504030201)
	if b := p.Bytes(); !bytes.Equal(b[4:20], []byte{1, 2, 3, 4, 5, 6, 7, 8, 3, 0, 1, 0, 253, 1, 3, 0}) {
		t.Error("bytes:", b[:20])
	}
}

func TestBytesOfSlotsByNumbers(t *testing.T) {
	p := example(t)
	for _, c := range []api.Pair{{Key: "bb", Value: ""}, {Key: "c", Value: "yz"}, {Key: "d", Value: "w"}} {
		if e := p.Insert(c.Key, c.Value); e != api.OK {
			t.Fatal(c, e)
		}
	}
	if e := p.Delete("bb"); e != api.OK {
		t.Fatal(e)
	}
	b := p.Bytes()
	// a at 509, three bytes; nothing; c at 505, four; d at 502, three
	if want := []byte{4, 0, 253, 1, 3, 0, 0, 0, 0, 0, 249, 1, 4, 0, 246, 1, 3, 0}; !bytes.Equal(b[14:32], want) {
		t.Error("slots:", b[14:32])
	}
	if s := string(b[502:]); s != "\x01dw\x01cyz\x01ax" {
		t.Errorf("cells: %q", s)
	}
	if !bytes.Equal(b[32:502], make([]byte, 470)) || p.Free() != 470 {
		t.Error("between:", p.Free(), b[32:502])
	}
}

func TestLsnAndStamp(t *testing.T) {
	x := begin(t, 7)
	x.insert("k", "v")
	for _, l := range []uint64{0, 1, 15, 16, 255, 256, 1 << 32, 1<<60 + 15, 1 << 63, math.MaxUint64 - 1, math.MaxUint64, 5, 0} {
		x.stamp(l)
		if x.p.Lsn() != api.Lsn(l) || x.p.ID() != 7 {
			t.Error("stamped with", l, "and has", x.p.Lsn())
		}
	}
	x.stamp(77)
	x.update("k", "w") // its LSN stays, whatever else is changed
	x.insert("l", "v")
	x.delete("k")
	if x.p.Lsn() != 77 {
		t.Error("LSN:", x.p.Lsn())
	}
}

func TestParseOfWrongArguments(t *testing.T) {
	good, noughts, random := example(t).Bytes(), make([]byte, 512), make([]byte, 512)
	rand.New(rand.NewSource(61)).Read(random)
	for _, b := range [][]byte{good, noughts, random, nil} {
		for _, id := range wrongIDs() {
			wantNoPage(t, fmt.Sprint("id ", id), id, b, api.ErrArg)
		}
	}
	for _, id := range []int{0, 3, 15} {
		wantNoPage(t, "nil", id, nil, api.ErrArg)
		for _, n := range []int{0, 1, 4, 16, 64, 508, 510, 511, 513, 514, 1024, 65536} {
			wantNoPage(t, fmt.Sprint(n, " noughts"), id, make([]byte, n), api.ErrArg)
			b := append(slices.Clone(good), random...)
			b = append(b, make([]byte, 65536)...)[:n]
			wantNoPage(t, fmt.Sprint(n, " bytes"), id, b, api.ErrArg)
		}
		wantNoPage(t, "one nought more", id, append(slices.Clone(good), 0), api.ErrArg)
		wantNoPage(t, "one byte fewer", id, good[:511], api.ErrArg)
	}
}

func TestParseOfNoughts(t *testing.T) {
	for id := range 16 {
		p, e := page.Parse(id, make([]byte, 512))
		if e != api.OK {
			t.Fatal("noughts:", id, e)
		}
		wantPage(t, "noughts", p, &model{id: id})
		for i := range 512 {
			for _, c := range []byte{1, 128, 255} {
				b := make([]byte, 512)
				b[i] = c
				wantNoPage(t, fmt.Sprint("noughts but for byte ", i), id, b, api.ErrSum)
			}
		}
	}
}

func TestParseUnderAnotherID(t *testing.T) {
	for id := range 16 {
		for _, slots := range [][]api.Cell{nil, {{Used: true, Key: "a", Value: "x"}}} {
			b := laid(id, 99, slots)
			for other := range 16 {
				if other != id {
					wantNoPage(t, fmt.Sprint("page ", id, " as ", other), other, b, api.ErrForm)
				}
			}
			p, e := page.Parse(id, b)
			if e != api.OK {
				t.Fatal("page", id, e)
			}
			wantPage(t, "its own id", p, &model{id, 99, slots})
		}
	}
	for _, id := range []int{16, 255, 256, 256 + 3, 1<<16 - 1} {
		for _, as := range []int{0, 3, 15} {
			wantNoPage(t, fmt.Sprint("page ", id), as, laid(id, 0, nil), api.ErrForm)
		}
	}
}

// samples has pages of many shapes.
func samples() []*model {
	used := func(key, value string) api.Cell { return api.Cell{Used: true, Key: key, Value: value} }
	l := []*model{
		{0, 0, nil},
		{15, math.MaxUint64, nil},
		{3, 0, []api.Cell{used("a", "x")}},
		{3, 17, []api.Cell{{}, used("b", ""), {}, {}, used("a", text(32)), used(text(16), text(32))}},
		{9, 1 << 40, []api.Cell{used("\x00", "\x00\x00"), used("\x00\x00", ""), {}, used("\xff", "\x00")}},
	}
	many := &model{id: 2, lsn: 5}
	for i := range 64 {
		many.slots = append(many.slots, used(string(rune('0'+i)), ""))
	}
	last := &model{id: 1, lsn: 1, slots: append(make([]api.Cell, 63), used("k", "v"))}
	full := &model{id: 4, lsn: 4}
	for i := range 9 {
		full.slots = append(full.slots, used(string(rune('a'+i))+text(15), text(32)))
	}
	full.slots = append(full.slots, used("rest", text(10))) // 9 of 53 bytes, one of 19: none is free
	return append(l, many, last, full)
}

func TestParseOfSamples(t *testing.T) {
	for i, m := range samples() {
		b := m.bytes()
		p, e := page.Parse(m.id, b)
		if e != api.OK {
			t.Fatal("sample", i, e)
		}
		wantPage(t, fmt.Sprint("sample ", i), p, m)
	}
	if l := samples(); l[len(l)-1].free() != 0 {
		t.Error("the full sample has free bytes")
	}
}

func TestParseWithOneBitTurned(t *testing.T) {
	for i, m := range samples() {
		for bit := range 8 * 512 {
			b := m.bytes()
			b[bit/8] ^= 1 << (bit % 8)
			wantNoPage(t, fmt.Sprintf("sample %d, bit %d", i, bit), m.id, b, api.ErrSum)
		}
	}
}

func TestParseOfOtherSums(t *testing.T) {
	b := example(t).Bytes()
	for i := range 4 {
		for n := 1; n < 256; n++ {
			c := slices.Clone(b)
			c[i] ^= byte(n)
			wantNoPage(t, "another sum", 3, c, api.ErrSum)
		}
	}
	wantNoPage(t, "the sum's bytes the other way round", 3, append([]byte{b[3], b[2], b[1], b[0]}, b[4:]...), api.ErrSum)
	wantNoPage(t, "no sum", 3, append(make([]byte, 4), b[4:]...), api.ErrSum)
	moved := append(slices.Clone(b[4:]), b[:4]...)
	wantNoPage(t, "the sum behind", 3, moved, api.ErrSum)
}

// TestErrorsOfParseInTheirOrder has bytes of which several errors could be told.
func TestErrorsOfParseInTheirOrder(t *testing.T) {
	bad := laid(3, 0, make([]api.Cell, 2)) // the last slot is free
	wantNoPage(t, "no page", 3, bad, api.ErrForm)
	unsealed := slices.Clone(bad)
	unsealed[0] ^= 1
	wantNoPage(t, "no page, another sum", 3, unsealed, api.ErrSum)
	wantNoPage(t, "no page, another sum, another id", 4, unsealed, api.ErrSum)
	wantNoPage(t, "no page, another sum, no id", 16, unsealed, api.ErrArg)
	wantNoPage(t, "no page, another sum, too short", 3, unsealed[:511], api.ErrArg)
	other := example(t).Bytes()
	other[511]++
	wantNoPage(t, "another id, another sum", 4, other, api.ErrSum)
}

// check holds Parse of sealed bytes against the second reading of the document's words.
func check(t *testing.T, what string, id int, b []byte) {
	t.Helper()
	m := read(b)
	if m == nil || m.id != id {
		wantNoPage(t, what, id, b, api.ErrForm)
		return
	}
	p, e := page.Parse(id, b)
	if e != api.OK {
		t.Fatalf("%s: %d, and is a page: %v", what, e, b)
	}
	if !bytes.Equal(p.Bytes(), b) {
		t.Fatalf("%s: other bytes are parsed as this page", what)
	}
	wantAnswers(t, what, p, m)
}

func TestParseWithOneByteChangedAndSealed(t *testing.T) {
	for i, m := range samples() {
		good := m.bytes()
		for at := 4; at < 512; at++ {
			for n := 1; n < 256; n++ {
				if n&(n-1) != 0 && n != 255 && at > 64 && at < 448 {
					continue // far from slots and cells the bits alone are enough
				}
				b := slices.Clone(good)
				b[at] ^= byte(n)
				check(t, fmt.Sprintf("sample %d, byte %d: %d", i, at, b[at]), m.id, sealed(b))
			}
		}
	}
}

func TestParseOfRandomPieces(t *testing.T) {
	from := rand.New(rand.NewSource(62))
	pages := 0
	for range 60000 {
		l := samples()
		m := l[from.Intn(len(l))]
		b := m.bytes()
		for range 1 + from.Intn(3) {
			at := 4 + from.Intn(508)
			switch from.Intn(5) {
			case 0:
				b[at] = byte(from.Intn(256))
			case 1:
				b[14+from.Intn(24)] = byte(from.Intn(66))
			case 2:
				n := 16 + 2*from.Intn(12)
				low.PutUint16(b[n:], uint16(from.Intn(520)))
			case 3:
				copy(b[4+from.Intn(508):], b[at:min(at+4, 512)])
			case 4:
				low.PutUint64(b[4:], from.Uint64())
			}
		}
		b = sealed(b)
		if read(b) != nil {
			pages++
		}
		check(t, "random pieces", m.id, b)
	}
	if pages < 1000 {
		t.Error("hardly any page among them:", pages)
	}
}

func TestParseOfRandomBytes(t *testing.T) {
	from := rand.New(rand.NewSource(63))
	for range 2000 {
		b := make([]byte, 512)
		from.Read(b)
		wantNoPage(t, "random bytes", from.Intn(16), b, api.ErrSum)
		wantNoPage(t, "random bytes, sealed", from.Intn(16), sealed(b), api.ErrForm)
	}
}
