package stable_test

import (
	"bytes"
	"math"
	"testing"

	"flotilla/api"
	"flotilla/stable"
)

// model is a device by the document's words alone, kept as texts and gone through byte by byte.
type model struct {
	bytes string
	under map[int]flight
}

type flight struct {
	at    int
	bytes string
}

func newModel(size int) *model {
	return &model{bytes: string(make([]byte, size)), under: map[int]flight{}}
}

// reaches tells whether n bytes from at on reach beyond the end or ahead of the beginning.
func (m *model) reaches(at, n int) bool {
	return at < 0 || n < 0 || uint64(at)+uint64(n) > uint64(len(m.bytes))
}

func (m *model) read(at, n int) (string, api.Errno) {
	if m.reaches(at, n) {
		return "", api.ErrRange
	}
	return m.bytes[at : at+n], api.OK
}

func (m *model) start(hand, at int, b string) api.Errno {
	_, flies := m.under[hand]
	switch {
	case hand < 0, hand > 7, at&63 != 0, len(b)&63 != 0, b == "":
		return api.ErrArg
	case m.reaches(at, len(b)):
		return api.ErrRange
	case flies:
		return api.ErrState
	}
	m.under[hand] = flight{at, b}
	return api.OK
}

func (m *model) finish(hand int) api.Errno {
	return m.crash(hand, 1<<20)
}

func (m *model) crash(hand, sectors int) api.Errno {
	f, flies := m.under[hand]
	switch {
	case hand < 0, hand > 7:
		return api.ErrArg
	case !flies:
		return api.ErrNone
	}
	b := []byte(m.bytes)
	for i := range len(f.bytes) {
		if i>>6 < sectors {
			b[f.at+i] = f.bytes[i]
		}
	}
	m.bytes = string(b)
	delete(m.under, hand)
	return api.OK
}

func (m *model) trim(at int) api.Errno {
	if m.reaches(at, 0) {
		return api.ErrRange
	}
	for at&63 != 0 {
		at++
	}
	m.bytes = m.bytes[:at] + string(make([]byte, len(m.bytes)-at))
	return api.OK
}

func (m *model) clone() *model {
	c := &model{bytes: m.bytes, under: map[int]flight{}}
	for h, f := range m.under {
		c.under[h] = f
	}
	return c
}

// same asks everything that a device tells of itself.
func (m *model) same(t *testing.T, d *stable.Device, when string) {
	t.Helper()
	if d.Size() != len(m.bytes) {
		t.Fatalf("%s: Size %d, and should be %d", when, d.Size(), len(m.bytes))
	}
	wantBytes(t, d, []byte(m.bytes), when)
	for h := -1; h <= 8; h++ {
		at, n, ok := d.Flying(h)
		f, flies := m.under[h]
		if at != f.at || n != len(f.bytes) || ok != flies {
			t.Fatalf("%s: Flying(%d): %d, %d, %v, and should be %d, %d, %v", when, h, at, n, ok, f.at, len(f.bytes), flies)
		}
	}
}

// wantBytes asks all bytes of a device.
func wantBytes(t *testing.T, d *stable.Device, want []byte, when string) {
	t.Helper()
	b, e := d.Read(0, d.Size())
	if e != api.OK || !bytes.Equal(b, want) {
		t.Fatalf("%s: the device has %v, %v, and should have %v", when, spans(b), e, spans(want))
	}
}

// spans is bytes in a short form: how many of each stand one behind the other.
func spans(b []byte) [][2]int {
	var l [][2]int
	for i, x := range b {
		if i == 0 || b[i-1] != x {
			l = append(l, [2]int{0, int(x)})
		}
		l[len(l)-1][0]++
	}
	return l
}

// made is a device that must be.
func made(t *testing.T, size int) *stable.Device {
	t.Helper()
	d, e := stable.New(size)
	if e != api.OK || d == nil {
		t.Fatalf("New(%d): %v, %v", size, d, e)
	}
	return d
}

// want asks an error's number.
func want(t *testing.T, what string, got, should api.Errno) {
	t.Helper()
	if got != should {
		t.Fatalf("%s: %v, and should be %v", what, got, should)
	}
}

// fill is n bytes that are all x.
func fill(n int, x byte) []byte {
	return bytes.Repeat([]byte{x}, n)
}

// sectors is as many sectors as there are numbers, each filled with its number.
func sectors(x ...byte) []byte {
	var b []byte
	for _, y := range x {
		b = append(b, fill(64, y)...)
	}
	return b
}

// numbers are integers at which something might go wrong.
func numbers() []int {
	l := []int{math.MinInt, math.MinInt + 1, math.MinInt + 64, math.MinInt32, -65536, math.MaxInt, math.MaxInt - 1, math.MaxInt - 63, math.MaxInt - 64, math.MaxInt - 127, math.MaxInt32, 1 << 32, 1<<32 + 64, 1 << 40}
	for _, n := range []int{0, 7, 8, 32, 64, 128, 192, 256, 1024, 4096, 65536} {
		l = append(l, n-1, n, n+1)
	}
	return append(l, -2, -63, -64, -65, -128)
}
