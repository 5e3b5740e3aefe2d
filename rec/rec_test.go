package rec_test

import (
	"bytes"
	"fmt"
	"math"
	"math/rand"
	"slices"
	"strings"
	"testing"

	"flotilla/api"
	"flotilla/rec"
)

func TestKindsAndLimitsAreTheDocuments(t *testing.T) {
	if !slices.Equal(kinds(), []api.Kind{api.RecUpdate, api.RecUndo, api.RecCommit, api.RecAbort, api.RecEnd, api.RecSave, api.RecOpen, api.RecCheck}) || api.RecNone != 0 || api.RecCount != 9 {
		t.Error("the kinds of records have other numbers")
	}
	if api.ActInsert != inserted || api.ActUpdate != updated || api.ActDelete != deleted || api.ActCount != 4 {
		t.Error("the kinds of changes have other numbers")
	}
	if api.TxnOpen != 0 || api.TxnCommitted != 1 || api.TxnAborted != 2 || api.TxnStates != 3 {
		t.Error("the states have other numbers")
	}
	if api.MaxPages != 16 || api.MaxKey != 16 || api.MaxValue != 32 || api.MaxTxn != lastTxn {
		t.Error("the limits are others")
	}
}

// 5.1

func TestExample(t *testing.T) {
	r := api.Record{Kind: api.RecCommit, Lsn: 33, Txn: 7, Prev: 17}
	want := []byte{3, 33, 0, 0, 0, 0, 0, 0, 0, 7, 0, 0, 0, 17, 0, 0, 0, 0, 0, 0, 0}
	if e := rec.Check(r); e != api.OK {
		t.Error("Check:", e)
	}
	b, e := rec.Encode(r)
	if e != api.OK || len(b) != 21 || !bytes.Equal(b, want) {
		t.Error("Encode:", b, e)
	}
	if x, e := rec.Decode(want); e != api.OK || !equal(x, r) {
		t.Error("Decode:", x, e)
	}
	f, e := rec.Frame(r)
	if e != api.OK || len(f) != 27 || !bytes.Equal(f, sealed(append([]byte{21, 0}, want...))) {
		t.Error("Frame:", f, e)
	}
	if x, n, e := rec.Unframe(f); e != api.OK || n != 27 || !equal(x, r) {
		t.Error("Unframe:", x, n, e)
	}
	if n := rec.Size(r); n != 27 {
		t.Error("Size:", n)
	}
}

// TestBytesOfEachKind has the bytes written out, as no model of them can be wrong in the same way as the program.
func TestBytesOfEachKind(t *testing.T) {
	head := func(k byte) string { return string(k) + "\x0f\x0e\x0d\x0c\x0b\x0a\x09\x08" }
	ofTxn := "\x04\x03\x02\x01" + "\x07\x06\x05\x04\x03\x02\x01\x00"
	ofNone := strings.Repeat("\x00", 12)
	act := "\x05\x00" + "\x02" + "\x03\x00key" + "\x02\x00\x00\xff" + "\x01\x00n"
	tables := "\x02" + "\x04\x03\x02\x01" + "\x01" + "\x11\x00\x00\x00\x00\x00\x00\x00" + "\x00\x00\x00\x40" + "\x02" + "\x0f\x00\x00\x00\x00\x00\x00\x10" +
		"\x01" + "\x0c\x00" + "\x10\x11\x12\x13\x14\x15\x16\x07"
	want := map[api.Kind]string{
		update: head(1) + ofTxn + act,
		undo:   head(2) + ofTxn + act + "\x07\x07\x06\x06\x05\x05\x04\x04",
		commit: head(3) + ofTxn,
		abort:  head(4) + ofTxn,
		end:    head(5) + ofTxn,
		save:   head(6) + ofTxn,
		open:   head(7) + ofNone,
		check:  head(8) + ofNone + tables,
	}
	for _, k := range kinds() {
		r := api.Record{Kind: k, Lsn: 0x08090a0b0c0d0e0f}
		if !isCheckpoint(k) {
			r.Txn, r.Prev = 0x01020304, 0x0001020304050607
		}
		if isChange(k) {
			r.Page, r.Act = 5, api.Act{Kind: updated, Key: "key", Old: "\x00\xff", New: "n"}
		}
		if k == undo {
			r.Undo = 0x0404050506060707
		}
		if k == check {
			r.Txns = []api.Txn{{ID: 0x01020304, State: 1, Last: 17}, {ID: lastTxn, State: 2, Last: lastLsn}}
			r.Dirty = []api.Dirty{{Page: 12, Rec: 0x0716151413121110}}
		}
		b, e := rec.Encode(r)
		if e != api.OK || string(b) != want[k] {
			t.Errorf("kind %d: Encode %v, %d; want %v", k, b, e, []byte(want[k]))
		}
		if x, e := rec.Decode([]byte(want[k])); e != api.OK || !equal(x, r) {
			t.Errorf("kind %d: Decode %v, %d; want %v", k, x, e, r)
		}
		wantGood(t, fmt.Sprint("kind ", k), r)
	}
}

func TestLongestRecords(t *testing.T) {
	r := with(base(check), func(r *api.Record) { r.Txns, r.Dirty = txns(64), dirties(16) })
	if n := rec.Size(r); n != 6+21+1+64*13+1+16*10 {
		t.Error("Size of the longest checkpoint:", n)
	}
	r = with(base(undo), func(r *api.Record) { r.Act = api.Act{Kind: updated, Key: text(16), Old: text(32), New: text(32)} })
	if n := rec.Size(r); n != 6+21+2+1+18+34+34+8 {
		t.Error("Size of the longest change:", n)
	}
}

func TestRecordsThatMayBe(t *testing.T) {
	for _, c := range limits().good {
		if !mayBe(c.r) {
			t.Fatalf("%s: the test itself is wrong", c.name)
		}
		wantGood(t, c.name, c.r)
	}
}

func TestRecordsThatMayNotBe(t *testing.T) {
	wantBad(t, "zero", api.Record{})
	for _, c := range limits().bad {
		if mayBe(c.r) {
			t.Fatalf("%s: the test itself is wrong", c.name)
		}
		wantBad(t, c.name, c.r)
	}
}

// anyOf is one of several.
func anyOf[T any](from *rand.Rand, l ...T) T { return l[from.Intn(len(l))] }

// anyRecord is made of numbers at the limits and past them.
func anyRecord(from *rand.Rand) api.Record {
	r := base(anyOf(from, kinds()...))
	for range from.Intn(3) {
		switch from.Intn(9) {
		case 0:
			r.Kind = api.Kind(from.Intn(11) - 1)
		case 1:
			r.Lsn = anyOf(from, anyOf(from, rightLsns()...), anyOf(from, wrongLsns()...))
		case 2:
			r.Txn = anyOf(from, -1, 0, 1, lastTxn, lastTxn+1)
		case 3:
			r.Prev = anyOf(from, 0, 1, r.Lsn-1, r.Lsn)
		case 4:
			r.Undo = anyOf(from, 0, 1, r.Lsn-1, r.Lsn)
		case 5:
			r.Page = from.Intn(18) - 1
		case 6:
			r.Act = api.Act{Kind: api.ActKind(from.Intn(5)), Key: text(anyOf(from, 0, 1, 16, 17)), Old: text(anyOf(from, 0, 32, 33)), New: text(anyOf(from, 0, 32, 33))}
		case 7:
			r.Txns = nil
			for range from.Intn(4) {
				r.Txns = append(r.Txns, api.Txn{ID: from.Intn(8), State: api.TxnState(from.Intn(4)), Last: anyOf(from, rightLsns()...)})
			}
		case 8:
			r.Dirty = nil
			for range from.Intn(4) {
				r.Dirty = append(r.Dirty, api.Dirty{Page: from.Intn(17), Rec: anyOf(from, rightLsns()...)})
			}
		}
	}
	return r
}

func TestAnyRecords(t *testing.T) {
	from := rand.New(rand.NewSource(5))
	good := 0
	for range 20000 {
		r := anyRecord(from)
		if mayBe(r) {
			good++
			wantGood(t, fmt.Sprint(r), r)
		} else {
			wantBad(t, fmt.Sprint(r), r)
		}
		if t.Failed() {
			return
		}
	}
	if good < 2000 || good > 18000 {
		t.Error("records that may be, of 20,000:", good)
	}
}

func TestDecodeOfCutAndOfTooMany(t *testing.T) {
	wantNoRecord(t, "nil", nil)
	wantNoRecord(t, "no bytes", []byte{})
	l := append(bases(), with(base(check), func(r *api.Record) { r.Txns, r.Dirty = nil, nil }),
		with(base(check), func(r *api.Record) { r.Txns, r.Dirty = txns(64), dirties(16) }))
	for _, r := range l {
		b := laid(r)
		for n := range b {
			wantNoRecord(t, fmt.Sprintf("kind %d, the first %d bytes", r.Kind, n), b[:n])
		}
		for _, more := range [][]byte{{0}, {1}, {8}, {255}, {0, 0}, make([]byte, 8), make([]byte, 10), make([]byte, 13), b} {
			wantNoRecord(t, fmt.Sprintf("kind %d, and %v behind", r.Kind, more), append(slices.Clone(b), more...))
		}
		wantNoRecord(t, fmt.Sprintf("kind %d, without its first byte", r.Kind), b[1:])
	}
}

// TestDecodeOfBytesOfNoRecord lays records that may not be: what the bytes don't show is some other record, which is told.
func TestDecodeOfBytesOfNoRecord(t *testing.T) {
	refused := 0
	for _, c := range limits().bad {
		wantDecoded(t, c.name, laid(c.r))
		if _, ok := parsed(laid(c.r)); !ok {
			refused++
		}
	}
	if refused < 500 {
		t.Error("refused:", refused)
	}
}

// wantDecoded holds Decode against the model's.
func wantDecoded(t *testing.T, name string, b []byte) {
	t.Helper()
	want, ok := parsed(b)
	if !ok {
		wantNoRecord(t, name, b)
		if len(b) < 1<<16 { // else a frame's first two bytes can't tell how many
			wantNoFrame(t, name, framed(b), api.ErrForm)
		}
		return
	}
	if r, e := rec.Decode(b); e != api.OK || !equal(r, want) {
		t.Errorf("%s: Decode %v, %d; want %v", name, r, e, want)
		return
	}
	if back, e := rec.Encode(want); e != api.OK || !bytes.Equal(back, b) {
		t.Errorf("%s: Encode of what was decoded %v, %d", name, back, e)
	}
}

// at is b with other bytes at a place.
func at(b []byte, place int, other ...byte) []byte {
	b = slices.Clone(b)
	copy(b[place:], other)
	return b
}

func TestDecodeOfNumbersPastAnInts(t *testing.T) {
	full := bytes.Repeat([]byte{255}, 8)
	half := []byte{0, 0, 0, 0, 0, 0, 0, 128}
	for _, k := range kinds() {
		b := laid(base(k))
		for _, wide := range [][]byte{full, half} {
			wantNoRecord(t, "Lsn", at(b, 1, wide...))
			wantNoRecord(t, "Prev", at(b, 13, wide...))
			wantNoRecord(t, "Txn", at(b, 9, wide[4:]...))
		}
	}
	change := laid(base(undo))
	checkpoint := laid(base(check))
	dirty := 22 + 3*13 + 1
	for _, wide := range [][]byte{full, half} {
		wantNoRecord(t, "Page", at(change, 21, wide[6:]...))
		wantNoRecord(t, "Act.Kind", at(change, 23, wide[7:]...))
		wantNoRecord(t, "Undo", at(change, len(change)-8, wide...))
		for i := range 3 {
			wantNoRecord(t, "ID", at(checkpoint, 22+13*i, wide[4:]...))
			wantNoRecord(t, "State", at(checkpoint, 26+13*i, wide[7:]...))
			wantNoRecord(t, "Last", at(checkpoint, 27+13*i, wide...))
			wantNoRecord(t, "Page of a row", at(checkpoint, dirty+10*i, wide[6:]...))
			wantNoRecord(t, "Rec", at(checkpoint, dirty+10*i+2, wide...))
		}
		wantNoRecord(t, "how many Txns", at(checkpoint, 21, wide[7:]...))
		wantNoRecord(t, "how many Dirty", at(checkpoint, dirty-1, wide[7:]...))
		for _, length := range []int{24, 29, 40} {
			wantNoRecord(t, "a text's length", at(change, length, wide[6:]...))
		}
	}
}

// TestDecodeOfChangedBytes has each byte of a record's bytes as any other.
func TestDecodeOfChangedBytes(t *testing.T) {
	for _, r := range bases() {
		b := laid(r)
		for place := range b {
			for other := range 256 {
				wantDecoded(t, fmt.Sprintf("kind %d, byte %d as %d", r.Kind, place, other), at(b, place, byte(other)))
			}
		}
	}
}

func TestDecodeOfRandomBytes(t *testing.T) {
	from := rand.New(rand.NewSource(51))
	told := 0
	for range 50000 {
		b := make([]byte, from.Intn(120))
		from.Read(b)
		if len(b) > 21 {
			b[0] = byte(from.Intn(10))
		}
		wantDecoded(t, "random bytes", b)
		// such as come near a record's
		b = laid(anyRecord(from))
		for range from.Intn(3) {
			b[from.Intn(len(b))] = byte(from.Intn(20))
		}
		b = b[:len(b)-min(len(b), anyOf(from, 0, 0, 0, 1, 8, 10, 13))]
		wantDecoded(t, "nearly a record's", b)
		if _, ok := parsed(b); ok {
			told++
		}
		if t.Failed() {
			return
		}
	}
	if told < 1000 {
		t.Error("bytes that were a record's, of 50,000:", told)
	}
}

// 5.3

func wantSame(t *testing.T, name string, a, b api.Record, want bool) {
	t.Helper()
	if got := rec.Same(a, b); got != want {
		t.Errorf("%s: Same %t", name, got)
	}
	if got := rec.Same(b, a); got != want {
		t.Errorf("%s: Same the other way round %t", name, got)
	}
}

// whole has something in every field, as no record that may be has.
func whole() api.Record {
	r := base(undo)
	r.Txns, r.Dirty = base(check).Txns, base(check).Dirty
	return r
}

func TestSameOfOneAndItself(t *testing.T) {
	for _, r := range append(bases(), whole(), api.Record{}) {
		wantSame(t, "itself", r, r, true)
		wantSame(t, "a copy", r, cloned(r), true)
	}
	c := limits()
	for _, x := range append(c.good, c.bad...) {
		wantSame(t, x.name, x.r, cloned(x.r), true)
	}
}

// changes are each of one thing in a record.
func changes() map[string]func(r *api.Record) {
	return map[string]func(r *api.Record){
		"Kind":           func(r *api.Record) { r.Kind++ },
		"Kind by 256":    func(r *api.Record) { r.Kind += 256 },
		"Lsn":            func(r *api.Record) { r.Lsn++ },
		"Lsn's top":      func(r *api.Record) { r.Lsn ^= 1 << 63 },
		"Txn":            func(r *api.Record) { r.Txn++ },
		"Txn's sign":     func(r *api.Record) { r.Txn = ^r.Txn },
		"Prev":           func(r *api.Record) { r.Prev-- },
		"Undo":           func(r *api.Record) { r.Undo++ },
		"Page":           func(r *api.Record) { r.Page++ },
		"Act.Kind":       func(r *api.Record) { r.Act.Kind++ },
		"Key":            func(r *api.Record) { r.Act.Key += "\x00" },
		"Old":            func(r *api.Record) { r.Act.Old += "\x00" },
		"New":            func(r *api.Record) { r.Act.New += "\x00" },
		"no Txns":        func(r *api.Record) { r.Txns = nil },
		"fewer Txns":     func(r *api.Record) { r.Txns = r.Txns[:2] },
		"more Txns":      func(r *api.Record) { r.Txns = append(r.Txns, api.Txn{}) },
		"ID":             func(r *api.Record) { r.Txns[0].ID++ },
		"State":          func(r *api.Record) { r.Txns[1].State++ },
		"Last":           func(r *api.Record) { r.Txns[2].Last++ },
		"Txns' order":    func(r *api.Record) { slices.Reverse(r.Txns) },
		"no Dirty":       func(r *api.Record) { r.Dirty = nil },
		"fewer Dirty":    func(r *api.Record) { r.Dirty = r.Dirty[:2] },
		"more Dirty":     func(r *api.Record) { r.Dirty = append(r.Dirty, api.Dirty{}) },
		"Page of a row":  func(r *api.Record) { r.Dirty[0].Page++ },
		"Page of a last": func(r *api.Record) { r.Dirty[2].Page++ },
		"Rec":            func(r *api.Record) { r.Dirty[1].Rec++ },
		"Dirty's order":  func(r *api.Record) { slices.Reverse(r.Dirty) },
	}
}

func TestSameOfTwoThatDiffer(t *testing.T) {
	for name, change := range changes() {
		wantSame(t, name, whole(), with(whole(), change), false)
	}
	swapped := with(whole(), func(r *api.Record) { r.Act.Old, r.Act.New = r.Act.New, r.Act.Old })
	wantSame(t, "Old and New swapped", whole(), swapped, false)
	wantSame(t, "letters", api.Record{Act: api.Act{Key: "K"}}, api.Record{Act: api.Act{Key: "k"}}, false)
	all := bases()
	for i, a := range all {
		for j, b := range all {
			wantSame(t, fmt.Sprint("kinds ", a.Kind, b.Kind), a, b, i == j)
		}
	}
}

func TestSameOfNilAndEmpty(t *testing.T) {
	for _, r := range append(bases(), whole(), api.Record{}) {
		r.Txns, r.Dirty = nil, nil
		empty := r
		empty.Txns, empty.Dirty = []api.Txn{}, []api.Dirty{}
		wantSame(t, "nil and empty", r, empty, true)
		empty.Txns, empty.Dirty = make([]api.Txn, 0, 8), nil
		wantSame(t, "nil and empty with room", r, empty, true)
		wantSame(t, "nil and one zero row of Txns", r, with(r, func(r *api.Record) { r.Txns = make([]api.Txn, 1) }), false)
		wantSame(t, "nil and one zero row of Dirty", r, with(r, func(r *api.Record) { r.Dirty = make([]api.Dirty, 1) }), false)
	}
}

// 5.4

func TestNoTwoHaveTheSameBytes(t *testing.T) {
	l := limits().good
	from := rand.New(rand.NewSource(54))
	for range 5000 {
		if r := anyRecord(from); mayBe(r) {
			l = append(l, named{fmt.Sprint(r), r})
		}
	}
	of := map[string]named{}
	for _, c := range l {
		b, _ := rec.Encode(c.r)
		f, _ := rec.Frame(c.r)
		for _, bytes := range []string{string(b), string(f)} {
			other, there := of[bytes]
			if there && !equal(other.r, c.r) {
				t.Errorf("%s and %s have the same bytes", other.name, c.name)
			}
			of[bytes] = c
		}
	}
}

func TestSameBytesOnlyOfTheSame(t *testing.T) {
	l := limits().good
	for i, a := range l {
		x, _ := rec.Encode(a.r)
		b := l[(i*7+3)%len(l)]
		y, _ := rec.Encode(b.r)
		if bytes.Equal(x, y) != rec.Same(a.r, b.r) {
			t.Errorf("%s and %s: bytes and Same don't agree", a.name, b.name)
		}
	}
}

// P1

// calls does all calls with a record and with bytes, and tells a panic.
func calls(t *testing.T, r api.Record, b []byte) {
	t.Helper()
	defer func() {
		if x := recover(); x != nil {
			t.Errorf("a panic: %v", x)
		}
	}()
	rec.Check(r)
	rec.Encode(r)
	rec.Frame(r)
	rec.Size(r)
	rec.Same(r, whole())
	rec.Same(r, r)
	rec.Decode(b)
	rec.Unframe(b)
}

func TestNoCallPanics(t *testing.T) {
	huge := strings.Repeat("x", 1<<20)
	wide := with(base(check), func(r *api.Record) { r.Txns, r.Dirty = make([]api.Txn, 1<<17), make([]api.Dirty, 1<<17) })
	calls(t, wide, []byte(huge))
	for _, k := range append(kinds(), 0, 9, -1, math.MinInt, math.MaxInt) {
		r := whole()
		r.Kind = k
		r.Act = api.Act{Kind: api.ActKind(k), Key: huge, Old: huge, New: huge}
		calls(t, r, append([]byte{byte(k)}, huge...))
		for _, n := range wrongInts() {
			x := api.Record{Kind: k, Lsn: api.Lsn(n), Txn: n, Prev: api.Lsn(n), Undo: api.Lsn(n), Page: n, Act: api.Act{Kind: api.ActKind(n)},
				Txns: []api.Txn{{ID: n, State: api.TxnState(n), Last: api.Lsn(n)}}, Dirty: []api.Dirty{{Page: n, Rec: api.Lsn(n)}}}
			calls(t, x, laid(x))
			calls(t, x, framed(laid(x)))
		}
	}
	from := rand.New(rand.NewSource(1))
	for range 20000 {
		b := make([]byte, from.Intn(80))
		from.Read(b)
		calls(t, anyRecord(from), b)
	}
}

// Memory

func TestArgumentsAreNotChanged(t *testing.T) {
	c := limits()
	for _, x := range append(c.good, c.bad...) {
		was := cloned(x.r)
		b := laid(x.r)
		f := framed(b)
		calls(t, x.r, b)
		calls(t, x.r, f)
		if !equal(x.r, was) {
			t.Errorf("%s: the record was changed", x.name)
		}
		if !bytes.Equal(b, laid(was)) || !bytes.Equal(f, framed(laid(was))) {
			t.Errorf("%s: the bytes were changed", x.name)
		}
	}
}

// overwrite writes over all of a row, and over the room behind it.
func overwrite(b []byte) {
	for i := range b[:cap(b)] {
		b[:cap(b)][i] = 77
	}
}

func overwriteRows(r api.Record) {
	for i := range r.Txns[:cap(r.Txns)] {
		r.Txns[:cap(r.Txns)][i] = api.Txn{ID: 7, State: 7, Last: 7}
	}
	for i := range r.Dirty[:cap(r.Dirty)] {
		r.Dirty[:cap(r.Dirty)][i] = api.Dirty{Page: 7, Rec: 7}
	}
}

func TestBytesAreNewMemory(t *testing.T) {
	for _, r := range bases() {
		want := laid(r)
		for _, call := range []struct {
			lay  func(r api.Record) ([]byte, api.Errno)
			want []byte
		}{{rec.Encode, want}, {rec.Frame, framed(want)}} {
			own := cloned(r)
			a, _ := call.lay(own)
			b, _ := call.lay(own)
			overwrite(a)
			if !bytes.Equal(b, call.want) {
				t.Errorf("kind %d: two answers share memory", r.Kind)
			}
			if c, _ := call.lay(own); !bytes.Equal(c, call.want) {
				t.Errorf("kind %d: an answer that was written over changes the next", r.Kind)
			}
			overwriteRows(own)
			if !bytes.Equal(b, call.want) {
				t.Errorf("kind %d: an argument that was written over changes the answer", r.Kind)
			}
		}
	}
}

func TestRecordsAreNewMemory(t *testing.T) {
	unframe := func(b []byte) (api.Record, api.Errno) {
		r, _, e := rec.Unframe(b)
		return r, e
	}
	for _, want := range bases() {
		for _, call := range []struct {
			take func(b []byte) (api.Record, api.Errno)
			from []byte
		}{{rec.Decode, laid(want)}, {unframe, framed(laid(want))}} {
			own := slices.Clone(call.from)
			a, _ := call.take(own)
			b, _ := call.take(own)
			overwriteRows(a)
			if !equal(b, want) {
				t.Errorf("kind %d: two answers share memory", want.Kind)
			}
			if !bytes.Equal(own, call.from) {
				t.Errorf("kind %d: an answer that was written over changes the argument", want.Kind)
			}
			overwrite(own)
			if !equal(b, want) {
				t.Errorf("kind %d: an argument that was written over changes the answer", want.Kind)
			}
		}
	}
}

func TestCallsKeepNothing(t *testing.T) {
	for _, first := range bases() {
		for _, second := range bases() {
			rec.Frame(first)
			rec.Unframe(framed(laid(first)))
			wantBad(t, "between", api.Record{Kind: first.Kind})
			wantNoRecord(t, "between", laid(first)[:7])
			wantGood(t, fmt.Sprint("kind ", second.Kind, " behind ", first.Kind), second)
		}
	}
}
