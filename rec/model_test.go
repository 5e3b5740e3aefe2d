package rec_test

import (
	"encoding/binary"
	"hash/crc32"
	"reflect"
	"slices"
	"strings"
	"testing"

	"flotilla/api"
	"flotilla/rec"
)

// The kinds and limits by their numbers, written out: tests that took them from api alone could not see them changed.
const (
	update = api.Kind(1)
	undo   = api.Kind(2)
	commit = api.Kind(3)
	abort  = api.Kind(4)
	end    = api.Kind(5)
	save   = api.Kind(6)
	open   = api.Kind(7)
	check  = api.Kind(8)

	inserted = api.ActKind(1)
	updated  = api.ActKind(2)
	deleted  = api.ActKind(3)

	firstLsn = api.Lsn(16)
	lastLsn  = api.Lsn(1<<60 + 15)
	lastTxn  = 1 << 30
)

func kinds() []api.Kind {
	return []api.Kind{update, undo, commit, abort, end, save, open, check}
}

func isChange(k api.Kind) bool { return k == update || k == undo }

func isCheckpoint(k api.Kind) bool { return k == open || k == check }

// base is a record of a kind, with something in each field that it may have.
func base(k api.Kind) api.Record {
	r := api.Record{Kind: k, Lsn: 0x1234567890abcde, Txn: 0x12345678, Prev: 0x1234567890abcd0}
	if isChange(k) {
		r.Page = 11
		r.Act = api.Act{Kind: updated, Key: "key", Old: "old value", New: "new"}
	}
	if k == undo {
		r.Undo = 0x0fedcba987654
	}
	if isCheckpoint(k) {
		r.Txn, r.Prev = 0, 0
	}
	if k == check {
		r.Txns = []api.Txn{{ID: 2, State: 1, Last: 0x1234}, {ID: 0x10203040, State: 2, Last: 0x0102030405060708}, {ID: lastTxn, State: 0, Last: 17}}
		r.Dirty = []api.Dirty{{Page: 0, Rec: 33}, {Page: 9, Rec: 0x0807060504030201}, {Page: 15, Rec: 16}}
	}
	return r
}

func bases() []api.Record {
	var l []api.Record
	for _, k := range kinds() {
		l = append(l, base(k))
	}
	return l
}

// with is a copy of a record with something changed.
func with(r api.Record, change func(r *api.Record)) api.Record {
	r = cloned(r)
	change(&r)
	return r
}

func cloned(r api.Record) api.Record {
	r.Txns = append([]api.Txn(nil), r.Txns...)
	r.Dirty = append([]api.Dirty(nil), r.Dirty...)
	return r
}

// equal holds two records against each other without the program's own Same; nil and empty lists are one.
func equal(a, b api.Record) bool { return reflect.DeepEqual(cloned(a), cloned(b)) }

func isZero(r api.Record) bool { return equal(r, api.Record{}) }

// text is one of so many bytes, no two side by side of which are the same.
func text(n int) string {
	return strings.Repeat("0123456789abcdef\x00\xff\x80", n/19+1)[:n]
}

// txns has n rows that may be, dirties likewise (of n up to 16).
func txns(n int) []api.Txn {
	var l []api.Txn
	for i := range n {
		l = append(l, api.Txn{ID: 3*i + 1, State: api.TxnState(i % 3), Last: firstLsn + api.Lsn(i*1000)})
	}
	return l
}

func dirties(n int) []api.Dirty {
	var l []api.Dirty
	for i := range n {
		l = append(l, api.Dirty{Page: i, Rec: lastLsn - api.Lsn(i*1000)})
	}
	return l
}

// The document's section 'Words', once more.

func lsnMayBe(l api.Lsn) bool { return l >= 16 && l <= 1<<60+15 }

func actMayBe(a api.Act) bool {
	switch a.Kind {
	case 1:
		if len(a.Old) != 0 {
			return false
		}
	case 2:
	case 3:
		if len(a.New) != 0 {
			return false
		}
	default:
		return false
	}
	return len(a.Key) >= 1 && len(a.Key) <= 16 && len(a.Old) <= 32 && len(a.New) <= 32
}

func txnsMayBe(l []api.Txn) bool {
	above := 0
	for _, t := range l {
		if t.ID <= above || t.ID > 1<<30 || t.State < 0 || t.State > 2 || !lsnMayBe(t.Last) {
			return false
		}
		above = t.ID
	}
	return len(l) <= 64
}

func dirtyMayBe(l []api.Dirty) bool {
	above := -1
	for _, d := range l {
		if d.Page <= above || d.Page > 15 || !lsnMayBe(d.Rec) {
			return false
		}
		above = d.Page
	}
	return len(l) <= 16
}

func mayBe(r api.Record) bool {
	if !slices.Contains(kinds(), r.Kind) || !lsnMayBe(r.Lsn) || r.Prev >= r.Lsn || r.Undo >= r.Lsn {
		return false
	}
	if isChange(r.Kind) && (r.Page < 0 || r.Page > 15 || !actMayBe(r.Act)) {
		return false
	}
	if !isChange(r.Kind) && (r.Page != 0 || r.Act != api.Act{}) {
		return false
	}
	if r.Kind != undo && r.Undo != 0 {
		return false
	}
	if isCheckpoint(r.Kind) && (r.Txn != 0 || r.Prev != 0) {
		return false
	}
	if !isCheckpoint(r.Kind) && (r.Txn < 1 || r.Txn > 1<<30) {
		return false
	}
	if r.Kind != check {
		return len(r.Txns) == 0 && len(r.Dirty) == 0
	}
	return txnsMayBe(r.Txns) && dirtyMayBe(r.Dirty)
}

var low = binary.LittleEndian

func laidText(b []byte, s string) []byte {
	return append(low.AppendUint16(b, uint16(len(s))), s...)
}

// laid is a record's bytes as the document lays them, of records that may not be, too; what has no room there is cut.
func laid(r api.Record) []byte {
	b := []byte{byte(r.Kind)}
	b = low.AppendUint64(b, uint64(r.Lsn))
	b = low.AppendUint32(b, uint32(r.Txn))
	b = low.AppendUint64(b, uint64(r.Prev))
	if isChange(r.Kind) {
		b = low.AppendUint16(b, uint16(r.Page))
		b = append(b, byte(r.Act.Kind))
		b = laidText(laidText(laidText(b, r.Act.Key), r.Act.Old), r.Act.New)
	}
	if r.Kind == undo {
		b = low.AppendUint64(b, uint64(r.Undo))
	}
	if r.Kind == check {
		b = append(b, byte(len(r.Txns)))
		for _, t := range r.Txns {
			b = low.AppendUint32(b, uint32(t.ID))
			b = append(b, byte(t.State))
			b = low.AppendUint64(b, uint64(t.Last))
		}
		b = append(b, byte(len(r.Dirty)))
		for _, d := range r.Dirty {
			b = low.AppendUint16(b, uint16(d.Page))
			b = low.AppendUint64(b, uint64(d.Rec))
		}
	}
	return b
}

// sealed is b, and the sum's four bytes behind it.
func sealed(b []byte) []byte {
	b = slices.Clone(b)
	return low.AppendUint32(b, crc32.Checksum(b, crc32.MakeTable(crc32.Castagnoli)))
}

// framed is the frame of some bytes, whatever they are.
func framed(b []byte) []byte {
	return sealed(append(low.AppendUint16(nil, uint16(len(b))), b...))
}

// parser takes bytes off; bad stays, once there were too few.
type parser struct {
	b   []byte
	bad bool
}

func (p *parser) take(n int) []byte {
	if p.bad || len(p.b) < n {
		p.bad = true
		return make([]byte, n)
	}
	taken := p.b[:n]
	p.b = p.b[n:]
	return taken
}

func (p *parser) lsn() api.Lsn { return api.Lsn(low.Uint64(p.take(8))) }

func (p *parser) text() string { return string(p.take(int(low.Uint16(p.take(2))))) }

// parsed is the record that may be whose bytes b are, and whether there is one.
func parsed(b []byte) (api.Record, bool) {
	p := &parser{b: b}
	r := api.Record{Kind: api.Kind(p.take(1)[0])}
	r.Lsn = p.lsn()
	r.Txn = int(low.Uint32(p.take(4)))
	r.Prev = p.lsn()
	if isChange(r.Kind) {
		r.Page = int(low.Uint16(p.take(2)))
		r.Act.Kind = api.ActKind(p.take(1)[0])
		r.Act.Key, r.Act.Old, r.Act.New = p.text(), p.text(), p.text()
	}
	if r.Kind == undo {
		r.Undo = p.lsn()
	}
	if r.Kind == check {
		for range p.take(1)[0] {
			r.Txns = append(r.Txns, api.Txn{ID: int(low.Uint32(p.take(4))), State: api.TxnState(p.take(1)[0]), Last: p.lsn()})
		}
		for range p.take(1)[0] {
			r.Dirty = append(r.Dirty, api.Dirty{Page: int(low.Uint16(p.take(2))), Rec: p.lsn()})
		}
	}
	if p.bad || len(p.b) > 0 || !mayBe(r) {
		return api.Record{}, false
	}
	return r, true
}

// What is wanted of the calls.

// wantGood holds all that is promised of a record that may be.
func wantGood(t *testing.T, name string, r api.Record) {
	t.Helper()
	if e := rec.Check(r); e != api.OK {
		t.Errorf("%s: Check %d", name, e)
		return
	}
	b, e := rec.Encode(r)
	if e != api.OK || !slices.Equal(b, laid(r)) {
		t.Errorf("%s: Encode %v, %d; want %v", name, b, e, laid(r))
	}
	if x, e := rec.Decode(laid(r)); e != api.OK || !equal(x, r) {
		t.Errorf("%s: Decode %v, %d; want %v", name, x, e, r)
	}
	want := framed(laid(r))
	f, e := rec.Frame(r)
	if e != api.OK || !slices.Equal(f, want) {
		t.Errorf("%s: Frame %v, %d; want %v", name, f, e, want)
	}
	if x, n, e := rec.Unframe(want); e != api.OK || n != len(want) || !equal(x, r) {
		t.Errorf("%s: Unframe %v, %d, %d; want %v, %d", name, x, n, e, r, len(want))
	}
	if n := rec.Size(r); n != len(want) || n != len(b)+6 {
		t.Errorf("%s: Size %d, want %d", name, n, len(want))
	}
}

// wantBad holds all that is promised of a record that may not be.
func wantBad(t *testing.T, name string, r api.Record) {
	t.Helper()
	if e := rec.Check(r); e != api.ErrArg {
		t.Errorf("%s: Check %d", name, e)
	}
	if b, e := rec.Encode(r); e != api.ErrArg || len(b) != 0 {
		t.Errorf("%s: Encode %v, %d", name, b, e)
	}
	if f, e := rec.Frame(r); e != api.ErrArg || len(f) != 0 {
		t.Errorf("%s: Frame %v, %d", name, f, e)
	}
	if n := rec.Size(r); n != 0 {
		t.Errorf("%s: Size %d", name, n)
	}
}

func wantNoRecord(t *testing.T, name string, b []byte) {
	t.Helper()
	if r, e := rec.Decode(b); e != api.ErrForm || !isZero(r) {
		t.Errorf("%s: Decode %v, %d", name, r, e)
	}
}

func wantNoFrame(t *testing.T, name string, b []byte, want api.Errno) {
	t.Helper()
	if r, n, e := rec.Unframe(b); e != want || n != 0 || !isZero(r) {
		t.Errorf("%s: Unframe %v, %d, %d; want error %d", name, r, n, e, want)
	}
}
