package wal_test

import (
	"bytes"
	"encoding/binary"
	"hash/crc32"
	"reflect"
	"testing"

	"flotilla/api"
	"flotilla/rec"
	"flotilla/stable"
	"flotilla/wal"
)

// commit is a record whose frame has 27 bytes.
func commit(l api.Lsn, txn int) api.Record {
	return api.Record{Kind: api.RecCommit, Lsn: l, Txn: txn}
}

// sized is a record whose frame has so many bytes: 27, or from 37 to 116.
func sized(t *testing.T, l api.Lsn, txn, size int) api.Record {
	t.Helper()
	r := commit(l, txn)
	if size != 27 {
		r.Kind = api.RecUpdate
		r.Page = int(l) % 16
		key := min(size-36, 16)
		old := min(size-36-key, 32)
		r.Act = api.Act{Kind: api.ActUpdate, Key: text(key, 'k'), Old: text(old, 'o'), New: text(size-36-key-old, 'n')}
	}
	if rec.Size(r) != size {
		t.Fatalf("no record of %d bytes, but of %d", size, rec.Size(r))
	}
	return r
}

// check is a record with rows; its frame has 29 bytes, 13 more for each transaction and 10 for each page.
func check(l api.Lsn, txns, pages int) api.Record {
	r := api.Record{Kind: api.RecCheck, Lsn: l}
	for i := range txns {
		r.Txns = append(r.Txns, api.Txn{ID: i + 1, State: api.TxnState(i % 3), Last: api.Lsn(16 + i)})
	}
	for i := range pages {
		r.Dirty = append(r.Dirty, api.Dirty{Page: i, Rec: api.Lsn(32 + i)})
	}
	return r
}

func text(n int, c byte) string { return string(bytes.Repeat([]byte{c}, n)) }

// sealed is bytes and their sum, worked out by the library's own.
func sealed(b []byte) []byte {
	sum := crc32.Checksum(b, crc32.MakeTable(crc32.Castagnoli))
	return binary.LittleEndian.AppendUint32(append([]byte(nil), b...), sum)
}

// markOf is a whole sector that tells a number.
func markOf(n uint32) []byte {
	b := make([]byte, 64)
	copy(b, sealed(binary.LittleEndian.AppendUint32(nil, n)))
	return b
}

// frames is the frames of records, one behind the other.
func frames(t *testing.T, l ...api.Record) []byte {
	t.Helper()
	var b []byte
	for _, r := range l {
		f, e := rec.Frame(r)
		if e != api.OK {
			t.Fatalf("no frame of %v: %d", r, e)
		}
		b = append(b, f...)
	}
	return b
}

// device is one of that size that begins with these bytes.
func device(t *testing.T, size int, b []byte) *stable.Device {
	t.Helper()
	d, e := stable.New(size)
	if e != api.OK {
		t.Fatalf("no device of %d: %d", size, e)
	}
	all := make([]byte, size)
	copy(all, b)
	if size > 0 && (d.Start(7, 0, all) != api.OK || d.Finish(7) != api.OK) {
		t.Fatal("a device is not written")
	}
	return d
}

// laid is a device with a mark that tells n, and frames behind it.
func laid(t *testing.T, size int, n uint32, b []byte) *stable.Device {
	t.Helper()
	return device(t, size, append(markOf(n), b...))
}

// all is a device's bytes.
func all(t *testing.T, d *stable.Device) []byte {
	t.Helper()
	b, e := d.Read(0, d.Size())
	if e != api.OK {
		t.Fatal("a device is not read:", e)
	}
	return b
}

// stands is what stands on a device with these bytes: a second reading of the chapter's words.
func stands(b []byte) []api.Record {
	if len(b) < 64 {
		return nil
	}
	number := b[:4]
	if !bytes.Equal(sealed(number), b[:8]) {
		return nil
	}
	n := uint64(binary.LittleEndian.Uint32(number))
	if n > uint64(len(b)-64) {
		return nil
	}
	var l []api.Record
	at, last := 64, api.Lsn(0)
	for {
		if at+2 > len(b) {
			return l
		}
		end := at + 2 + int(binary.LittleEndian.Uint16(b[at:])) + 4
		if end > 64+int(n) || !bytes.Equal(sealed(b[at:end-4]), b[at:end]) {
			return l
		}
		r, e := rec.Decode(b[at+2 : end-4])
		if e != api.OK || r.Lsn <= last {
			return l
		}
		l = append(l, r)
		at, last = end, r.Lsn
	}
}

func same(a, b []api.Record) bool {
	if len(a) != len(b) {
		return false
	}
	for i := range a {
		if !rec.Same(a[i], b[i]) {
			return false
		}
	}
	return true
}

// model is a log and its device, by the chapter's words: the whole of the device's bytes as they would be if all were stable, and what is under way cut out of them.
type model struct {
	t       *testing.T
	hand    int
	disk    []byte
	records []api.Record
	stable  int
	forced  int
	step    int // 0: nothing is under way; 1: the records; 2: the mark
	at      int
	under   []byte
	kept    int
}

func (m *model) bytes() int { return len(frames(m.t, m.records...)) }

func (m *model) room() int { return len(m.disk) - 64 - m.bytes() - m.kept }

func (m *model) last() api.Lsn {
	if len(m.records) == 0 {
		return 0
	}
	return m.records[len(m.records)-1].Lsn
}

// lay is Append (of the room) and Spend (of what is kept).
func (m *model) lay(r api.Record, spend bool) api.Errno {
	if rec.Check(r) != api.OK || r.Lsn <= m.last() {
		return api.ErrArg
	}
	n := rec.Size(r)
	if spend && n > m.kept || !spend && n > m.room() {
		return api.ErrFull
	}
	if spend {
		m.kept -= n
	}
	m.records = append(m.records, r)
	return api.OK
}

func (m *model) keep(n int) api.Errno {
	if n < 0 {
		return api.ErrArg
	}
	if n > m.room() {
		return api.ErrFull
	}
	m.kept += n
	return api.OK
}

func (m *model) drop(n int) {
	if n >= m.kept {
		m.kept = 0
	} else if n > 0 {
		m.kept -= n
	}
}

func (m *model) force() bool {
	if m.step != 0 || m.stable == len(m.records) {
		return false
	}
	image := make([]byte, len(m.disk))
	copy(image[64:], frames(m.t, m.records...))
	m.at = (64 + len(frames(m.t, m.records[:m.stable]...))) / 64 * 64
	end := (64 + m.bytes() + 63) / 64 * 64
	m.under = image[m.at:end]
	m.step, m.forced = 1, len(m.records)
	return true
}

func (m *model) done() api.Errno {
	switch m.step {
	case 0:
		return api.ErrNone
	case 1:
		copy(m.disk[m.at:], m.under)
		m.at, m.under = 0, markOf(uint32(len(frames(m.t, m.records[:m.forced]...))))
		m.step = 2
	case 2:
		copy(m.disk, m.under)
		m.stable, m.step, m.under, m.at = m.forced, 0, nil, 0
	}
	return api.OK
}

// crash loses all but what stands on the disk, of which some sectors of what was under way are.
func (m *model) crash(sectors int) {
	n := min(len(m.under), 64*max(sectors, 0))
	copy(m.disk[m.at:], m.under[:n])
	m.open()
}

func (m *model) open() {
	m.records = stands(m.disk)
	m.stable, m.forced, m.kept = len(m.records), len(m.records), 0
	m.step, m.at, m.under = 0, 0, nil
}

// hold holds a log and its device against the model.
func (m *model) hold(w *wal.Log, d *stable.Device) {
	t := m.t
	t.Helper()
	if w.Room() != m.room() || w.Kept() != m.kept || w.Flying() != (m.step != 0) {
		t.Fatalf("Room %d, Kept %d, Flying %v: asked for %d, %d, %v", w.Room(), w.Kept(), w.Flying(), m.room(), m.kept, m.step != 0)
	}
	stableLsn := api.Lsn(0)
	if m.stable > 0 {
		stableLsn = m.records[m.stable-1].Lsn
	}
	if w.Stable() != stableLsn || w.Last() != m.last() {
		t.Fatalf("Stable %d, Last %d: asked for %d, %d", w.Stable(), w.Last(), stableLsn, m.last())
	}
	if l := w.Records(); !same(l, m.records) {
		t.Fatalf("Records %v: asked for %v", l, m.records)
	}
	m.holdFind(w)
	m.holdDevice(d)
}

func (m *model) holdFind(w *wal.Log) {
	m.t.Helper()
	known := map[api.Lsn]api.Record{}
	asked := []api.Lsn{0, 1, 1<<64 - 1}
	for _, r := range m.records {
		known[r.Lsn] = r
		asked = append(asked, r.Lsn-1, r.Lsn, r.Lsn+1)
	}
	for _, l := range asked {
		want, there := known[l]
		r, ok := w.Find(l)
		if ok != there || !rec.Same(r, want) {
			m.t.Fatalf("Find(%d): %v, %v: asked for %v, %v", l, r, ok, want, there)
		}
	}
}

func (m *model) holdDevice(d *stable.Device) {
	t := m.t
	t.Helper()
	if !bytes.Equal(all(t, d), m.disk) {
		t.Fatalf("the device has\n%v, asked for\n%v", all(t, d), m.disk)
	}
	at, n, ok := d.Flying(m.hand)
	if ok != (m.step != 0) || at != m.at || n != len(m.under) {
		t.Fatalf("under way: %d bytes at %d, %v: asked for %d at %d, %v", n, at, ok, len(m.under), m.at, m.step != 0)
	}
	if ok && !bytes.Equal(under(t, d, m.hand), m.under) {
		t.Fatalf("under way are %v, asked for %v", under(t, d, m.hand), m.under)
	}
	for hand := range api.MaxInst {
		if _, _, ok := d.Flying(hand); ok && hand != m.hand {
			t.Fatalf("hand %d has a write under way", hand)
		}
	}
	if l := wal.Read(d); !same(l, stands(m.disk)) {
		t.Fatalf("Read tells %v: asked for %v", l, stands(m.disk))
	}
}

// under is the bytes that a hand has under way.
func under(t *testing.T, d *stable.Device, hand int) []byte {
	t.Helper()
	at, n, ok := d.Flying(hand)
	if !ok {
		t.Fatal("nothing is under way")
	}
	c := d.Clone()
	c.Finish(hand)
	b, e := c.Read(at, n)
	if e != api.OK {
		t.Fatal("a clone is not read:", e)
	}
	return b
}

// opened is a log, its device and its model; hands are all of them in turn by size.
func opened(t *testing.T, d *stable.Device, hand int) (*wal.Log, *model) {
	t.Helper()
	w, e := wal.Open(d, hand)
	if e != api.OK || w == nil {
		t.Fatalf("Open: %v, %d", w, e)
	}
	m := &model{t: t, hand: hand, disk: all(t, d)}
	m.open()
	m.hold(w, d)
	return w, m
}

// fresh is a log of a new device.
func fresh(t *testing.T, size, hand int) (*wal.Log, *stable.Device, *model) {
	t.Helper()
	d := device(t, size, nil)
	w, m := opened(t, d, hand)
	return w, d, m
}

// forcedAll has all of a log's records stable.
func forcedAll(t *testing.T, w *wal.Log) {
	t.Helper()
	if !w.Force() || w.Done() != api.OK || w.Done() != api.OK {
		t.Fatal("not forced")
	}
}

func mustLay(t *testing.T, w *wal.Log, l ...api.Record) {
	t.Helper()
	for _, r := range l {
		if e := w.Append(r); e != api.OK {
			t.Fatalf("Append(%v): %d", r, e)
		}
	}
}

func isZero(r api.Record) bool { return reflect.DeepEqual(r, api.Record{}) }
