package page_test

import (
	"bytes"
	"encoding/binary"
	"hash/crc32"
	"slices"
	"strings"
	"testing"

	"flotilla/api"
	"flotilla/page"
)

// What the document says, a second time: a page as a list of slots, whose bytes are put together from their end, and which has no room for what would make them too many.

var low = binary.LittleEndian

type model struct {
	id    int
	lsn   uint64
	slots []api.Cell
}

// cellBytes is the cell of a slot.
func cellBytes(c api.Cell) []byte {
	if !c.Used {
		return nil
	}
	b := []byte{byte(len(c.Key))}
	b = append(b, c.Key...)
	return append(b, c.Value...)
}

// sealed is b, whose first four bytes are the sum of those behind them.
func sealed(b []byte) []byte {
	sum := crc32.Checksum(b[4:], crc32.MakeTable(crc32.Castagnoli))
	return append(low.AppendUint32(nil, sum), b[4:]...)
}

// head is the first sixteen bytes; the sum isn't there yet.
func head(lsn uint64, id, slots int) []byte {
	b := low.AppendUint64(make([]byte, 4), lsn)
	b = low.AppendUint16(b, uint16(id))
	return low.AppendUint16(b, uint16(slots))
}

// laid is a page's bytes; nil, if they were more than 512.
func laid(id int, lsn uint64, slots []api.Cell) []byte {
	front, cells := head(lsn, id, len(slots)), []byte(nil)
	for _, c := range slots {
		cell := cellBytes(c)
		cells = append(cell, cells...)
		if c.Used {
			front = low.AppendUint16(front, uint16(512-len(cells)))
			front = low.AppendUint16(front, uint16(len(cell)))
		} else {
			front = append(front, 0, 0, 0, 0)
		}
	}
	between := 512 - len(front) - len(cells)
	if between < 0 {
		return nil
	}
	return sealed(slices.Concat(front, make([]byte, between), cells))
}

func (m *model) bytes() []byte { return laid(m.id, m.lsn, m.slots) }

func (m *model) free() int {
	n := 512 - 16 - 4*len(m.slots)
	for _, c := range m.slots {
		n -= len(cellBytes(c))
	}
	return n
}

func (m *model) find(key string) int {
	for i, c := range m.slots {
		if c.Used && c.Key == key {
			return i
		}
	}
	return -1
}

func canHave(key, value string) bool {
	return key != "" && len(key) <= 16 && len(value) <= 32
}

// take has these slots from now on, if a page can have them.
func (m *model) take(slots []api.Cell) api.Errno {
	if len(slots) > 64 || laid(m.id, m.lsn, slots) == nil {
		return api.ErrFull
	}
	m.slots = slots
	return api.OK
}

func (m *model) insert(key, value string) api.Errno {
	if !canHave(key, value) {
		return api.ErrArg
	}
	if m.find(key) >= 0 {
		return api.ErrTwice
	}
	slots, at := slices.Clone(m.slots), 0
	for at < len(slots) && slots[at].Used {
		at++
	}
	if at == len(slots) {
		slots = append(slots, api.Cell{})
	}
	slots[at] = api.Cell{Used: true, Key: key, Value: value}
	return m.take(slots)
}

func (m *model) update(key, value string) api.Errno {
	if !canHave(key, value) {
		return api.ErrArg
	}
	at := m.find(key)
	if at < 0 {
		return api.ErrNone
	}
	slots := slices.Clone(m.slots)
	slots[at].Value = value
	return m.take(slots)
}

func (m *model) delete(key string) api.Errno {
	at := m.find(key)
	if at < 0 {
		return api.ErrNone
	}
	slots := slices.Clone(m.slots)
	slots[at] = api.Cell{}
	for len(slots) > 0 && !slots[len(slots)-1].Used {
		slots = slots[:len(slots)-1]
	}
	m.slots = slots
	return api.OK
}

func (m *model) pairs() []api.Pair {
	var l []api.Pair
	for _, c := range m.slots {
		if c.Used {
			l = append(l, api.Pair{Key: c.Key, Value: c.Value})
		}
	}
	slices.SortFunc(l, func(a, b api.Pair) int { return strings.Compare(a.Key, b.Key) })
	return l
}

// read is the page whose bytes b is, found by laying once more what b seems to have; nil, if b is none's.
func read(b []byte) *model {
	m := &model{id: int(low.Uint16(b[12:])), lsn: low.Uint64(b[4:])}
	count := int(low.Uint16(b[14:]))
	if count > 64 {
		return nil
	}
	for i := range count {
		begin, size := int(low.Uint16(b[16+4*i:])), int(low.Uint16(b[18+4*i:]))
		if begin == 0 && size == 0 {
			m.slots = append(m.slots, api.Cell{})
			continue
		}
		if size == 0 || begin+size > 512 || 1+int(b[begin]) > size {
			return nil
		}
		key, value := string(b[begin+1:begin+1+int(b[begin])]), string(b[begin+1+int(b[begin]):begin+size])
		if !canHave(key, value) || m.find(key) >= 0 {
			return nil
		}
		m.slots = append(m.slots, api.Cell{Used: true, Key: key, Value: value})
	}
	if count > 0 && !m.slots[count-1].Used || m.id > 15 || !bytes.Equal(m.bytes(), b) {
		return nil
	}
	return m
}

// both is a page and the model of it, told the same steps.
type both struct {
	t *testing.T
	p *page.Page
	m *model
}

func begin(t *testing.T, id int) *both {
	t.Helper()
	p, e := page.New(id)
	if e != api.OK || p == nil {
		t.Fatal("New:", id, e)
	}
	x := &both{t, p, &model{id: id}}
	x.check("new")
	return x
}

func (x *both) told(what string, got, want api.Errno) api.Errno {
	x.t.Helper()
	if got != want {
		x.t.Fatalf("%s: %d, and should be %d", what, got, want)
	}
	x.check(what)
	return got
}

func (x *both) insert(key, value string) api.Errno {
	x.t.Helper()
	want := x.m.insert(key, value)
	return x.told("Insert "+key+" "+value, x.p.Insert(key, value), want)
}

func (x *both) update(key, value string) api.Errno {
	x.t.Helper()
	want := x.m.update(key, value)
	return x.told("Update "+key+" "+value, x.p.Update(key, value), want)
}

func (x *both) delete(key string) api.Errno {
	x.t.Helper()
	want := x.m.delete(key)
	return x.told("Delete "+key, x.p.Delete(key), want)
}

func (x *both) stamp(l uint64) {
	x.t.Helper()
	x.p.Stamp(api.Lsn(l))
	x.m.lsn = l
	x.check("Stamp")
}

// want tells that a step was answered as the test's writer thinks, not only as the model does.
func (x *both) want(what string, got, want api.Errno) {
	x.t.Helper()
	if got != want {
		x.t.Fatalf("%s: %d, and should be %d", what, got, want)
	}
}

func (x *both) check(what string) {
	x.t.Helper()
	wantPage(x.t, what, x.p, x.m)
}

// wantPage asks a page all that can be asked.
func wantPage(t *testing.T, what string, p *page.Page, m *model) {
	t.Helper()
	if p == nil {
		t.Fatalf("%s: no page", what)
	}
	b := p.Bytes()
	if !bytes.Equal(b, m.bytes()) {
		t.Fatalf("%s: bytes %v, and should be %v", what, b, m.bytes())
	}
	wantAnswers(t, what, p, m)
	q, e := page.Parse(m.id, b)
	if e != api.OK {
		t.Fatalf("%s: Parse of its bytes: %d", what, e)
	}
	wantAnswers(t, what+", parsed", q, m)
}

func wantAnswers(t *testing.T, what string, p *page.Page, m *model) {
	t.Helper()
	if p.ID() != m.id || p.Lsn() != api.Lsn(m.lsn) || p.Free() != m.free() {
		t.Fatalf("%s: id %d, LSN %d, Free %d, and should be %d, %d, %d", what, p.ID(), p.Lsn(), p.Free(), m.id, m.lsn, m.free())
	}
	if l := p.Cells(); !slices.Equal(l, m.slots) {
		t.Fatalf("%s: cells %v, and should be %v", what, l, m.slots)
	}
	if l := p.Pairs(); !slices.Equal(l, m.pairs()) {
		t.Fatalf("%s: pairs %q, and should be %q", what, l, m.pairs())
	}
	for _, c := range m.pairs() {
		if v, ok := p.Get(c.Key); v != c.Value || !ok {
			t.Fatalf("%s: Get %q: %q, %v, and should be %q", what, c.Key, v, ok, c.Value)
		}
	}
}

// text is so many bytes, none like its neighbours.
func text(n int) string {
	b := make([]byte, n)
	for i := range b {
		b[i] = byte('a' + i%26)
	}
	return string(b)
}
