package mend_test

import (
	"math"
	"reflect"
	"slices"
	"strings"
	"testing"
	"time"

	"flotilla/act"
	"flotilla/api"
	"flotilla/lsn"
	"flotilla/mend"
	"flotilla/page"
	"flotilla/rec"
)

// What the document says, a second time: nothing is carried along; what a transaction still owes is looked for among all records each time, without a heap, and clocks are two numbers.

// isLog tells whether records may be and rise.
func isLog(l []api.Record) bool {
	for i, r := range l {
		if rec.Check(r) != 0 || i > 0 && !(l[i-1].Lsn < r.Lsn) {
			return false
		}
	}
	return true
}

func rises(l []api.Record) bool {
	for i := range l {
		if i > 0 && l[i].Lsn <= l[i-1].Lsn {
			return false
		}
	}
	return true
}

// with is the record with an LSN; false, if there is none.
func with(l []api.Record, at api.Lsn) (api.Record, bool) {
	for _, r := range l {
		if r.Lsn == at {
			return r, true
		}
	}
	return api.Record{}, false
}

// told is what the record with an LSN tells to be taken back, record by record back.
func told(l []api.Record, at api.Lsn) api.Lsn {
	r, ok := with(l, at)
	switch {
	case !ok:
		return 0
	case r.Kind == api.RecUpdate:
		return r.Lsn
	case r.Kind == api.RecUndo:
		return r.Undo
	}
	return told(l, r.Prev)
}

// life is a transaction's records behind its last RecCommit and RecEnd.
func life(l []api.Record, id int) []api.Record {
	var own []api.Record
	for _, r := range l {
		switch {
		case r.Txn != id:
		case r.Kind == api.RecCommit || r.Kind == api.RecEnd:
			own = nil
		default:
			own = append(own, r)
		}
	}
	return own
}

// debt is a transaction that goes on.
type debt struct {
	id         int
	open       bool
	last, next api.Lsn
}

// debts is those that go on behind a log, by rising number.
func debts(l []api.Record) []debt {
	var ids []int
	for _, r := range l {
		if r.Txn != 0 {
			ids = append(ids, r.Txn)
		}
	}
	slices.Sort(ids)
	var all []debt
	for _, id := range slices.Compact(ids) {
		own := life(l, id)
		if len(own) == 0 {
			continue
		}
		d := debt{id: id, open: true}
		for _, r := range own {
			d.last = r.Lsn
			switch r.Kind {
			case api.RecUpdate:
				d.next = r.Lsn
			case api.RecUndo:
				d.next = r.Undo
			case api.RecAbort:
				d.open = false
			}
		}
		all = append(all, d)
	}
	return all
}

// greatest is the place of the one whose next is the greatest, the first such; -1, if none has any.
func greatest(all []debt) int {
	at := -1
	for i, d := range all {
		if d.next > 0 && (at < 0 || d.next > all[at].next) {
			at = i
		}
	}
	return at
}

// backByWord is what Back tells of a log with a clock of an instance, that has a count; and the count then.
func backByWord(l []api.Record, inst int, count uint64) ([]api.Record, api.Errno, uint64) {
	if !isLog(l) {
		return nil, api.ErrArg, count
	}
	if len(l) > 0 {
		if last := l[len(l)-1].Lsn; last%16 < 8 && uint64(last/16) <= 1<<56 { // else it is no valid one
			count = max(count, uint64(last/16))
		}
	}
	all := debts(l)
	var b []api.Record
	put := func(d *debt, r api.Record) {
		count++
		r.Lsn, r.Txn, r.Prev = api.Lsn(16*count)+api.Lsn(inst), d.id, d.last
		d.last = r.Lsn
		b = append(b, r)
	}
	for i := range all {
		if all[i].open {
			put(&all[i], api.Record{Kind: api.RecAbort})
		}
	}
	for i := range all {
		if all[i].next == 0 {
			put(&all[i], api.Record{Kind: api.RecEnd})
		}
	}
	for i := greatest(all); i >= 0; i = greatest(all) {
		d := &all[i]
		r, ok := with(l, d.next)
		if !ok || r.Kind != api.RecUpdate || r.Txn != d.id {
			return nil, api.ErrNone, count
		}
		d.next = told(l, r.Prev)
		put(d, api.Record{Kind: api.RecUndo, Undo: d.next, Page: r.Page, Act: turned(r.Act)})
		if d.next == 0 {
			put(d, api.Record{Kind: api.RecEnd})
		}
	}
	if count > 1<<56 {
		return nil, api.ErrOver, count
	}
	return b, 0, count
}

func turned(a api.Act) api.Act {
	k := map[api.ActKind]api.ActKind{api.ActInsert: api.ActDelete, api.ActDelete: api.ActInsert, api.ActUpdate: api.ActUpdate}[a.Kind]
	return api.Act{Kind: k, Key: a.Key, Old: a.New, New: a.Old}
}

// clock is one of an instance that has a count.
func clock(t *testing.T, inst int, count uint64) *lsn.Clock {
	t.Helper()
	c, e := lsn.New(inst)
	if e != api.OK {
		t.Fatal("no clock:", e)
	}
	if count > 0 {
		c.See(api.Lsn(16 * count))
	}
	if c.Now() != count {
		t.Fatal("a clock at", c.Now(), "not", count)
	}
	return c
}

func sameRecords(a, b []api.Record) bool { return slices.EqualFunc(a, b, rec.Same) }

// lookBack holds what Back tells, and where the clock is then, against the document's words.
func lookBack(t *testing.T, l []api.Record, inst int, count uint64) ([]api.Record, api.Errno) {
	t.Helper()
	was := deep(l)
	c := clock(t, inst, count)
	got, e := mend.Back(l, c)
	want, wantE, now := backByWord(l, inst, count)
	if e != wantE || !sameRecords(got, want) {
		t.Fatalf("Back(%v) with a clock of %d at %d: %v, %d, not %v, %d", l, inst, count, got, e, want, wantE)
	}
	if (e == api.OK || e == api.ErrArg) && c.Now() != now {
		t.Fatalf("Back(%v) with a clock of %d at %d, %d: it is at %d then, not %d", l, inst, count, e, c.Now(), now)
	}
	if c.Now() < count {
		t.Fatalf("Back(%v): the clock fell from %d to %d", l, count, c.Now())
	}
	if !reflect.DeepEqual(deep(l), was) {
		t.Fatalf("Back: what was handed in became %v, and was %v", deep(l), was)
	}
	return got, e
}

// tellsBack asks for what Back tells with a new clock, written out, and holds it against the document's words.
func tellsBack(t *testing.T, l []api.Record, inst int, want ...api.Record) {
	t.Helper()
	if got, e := mend.Back(l, clock(t, inst, 0)); e != api.OK || !sameRecords(got, want) {
		t.Fatalf("Back(%v): %v, %d, not %v", l, got, e, want)
	}
	lookBack(t, l, inst, 0)
}

// refusesBack asks for an error, and no record beside it.
func refusesBack(t *testing.T, l []api.Record, inst int, count uint64, want api.Errno) {
	t.Helper()
	if got, e := mend.Back(l, clock(t, inst, count)); e != want || len(got) != 0 {
		t.Fatalf("Back(%v) with a clock of %d at %d: %v, %d, not %d", l, inst, count, got, e, want)
	}
	lookBack(t, l, inst, count)
}

// makeByWord does to a page, which becomes another one, what Make does.
func makeByWord(p *page.Page, l []api.Record) (int, api.Errno) {
	if !rises(l) {
		return 0, api.ErrArg
	}
	n := 0
	for _, r := range l {
		if r.Page == p.ID() && (r.Kind == 1 || r.Kind == 2) && r.Lsn > p.Lsn() {
			if e := act.Do(p, r.Act); e != 0 {
				return n, e
			}
			p.Stamp(r.Lsn)
			n++
		}
	}
	return n, 0
}

// samePage holds two against each other as wholes.
func samePage(a, b *page.Page) bool {
	return a.ID() == b.ID() && a.Lsn() == b.Lsn() && slices.Equal(a.Cells(), b.Cells()) && slices.Equal(a.Bytes(), b.Bytes())
}

// lookMake holds what Make tells and does to a page against the document's words.
func lookMake(t *testing.T, p *page.Page, l []api.Record) (int, api.Errno) {
	t.Helper()
	was, start := deep(l), p.Clone()
	want := p.Clone()
	wantN, wantE := makeByWord(want, l)
	n, e := mend.Make(p, l)
	if n != wantN || e != wantE || !samePage(p, want) {
		t.Fatalf("Make of the page %d (%d, %v) by %v: %d, %d, not %d, %d; it is %d, %v, not %d, %v", start.ID(), start.Lsn(), start.Pairs(), l, n, e, wantN, wantE, p.Lsn(), p.Cells(), want.Lsn(), want.Cells())
	}
	if !reflect.DeepEqual(deep(l), was) {
		t.Fatalf("Make: what was handed in became %v, and was %v", deep(l), was)
	}
	return n, e
}

// makes asks for what Make tells, written out, and for what the page has then.
func makes(t *testing.T, p *page.Page, l []api.Record, n int, e api.Errno, at api.Lsn, pairs ...api.Pair) {
	t.Helper()
	if gotN, gotE := lookMake(t, p, l); gotN != n || gotE != e {
		t.Fatalf("Make by %v: %d, %d, not %d, %d", l, gotN, gotE, n, e)
	}
	if p.Lsn() != at || !slices.Equal(p.Pairs(), pairs) {
		t.Fatalf("Make by %v: %d, %v, not %d, %v", l, p.Lsn(), p.Pairs(), at, pairs)
	}
}

// touchedByWord asks for each page whether a change names it.
func touchedByWord(l []api.Record) []int {
	names := map[int]bool{}
	for _, r := range l {
		if r.Kind == api.RecUpdate || r.Kind == api.RecUndo {
			names[r.Page] = true
		}
	}
	var pages []int
	for p := range names {
		pages = append(pages, p)
	}
	slices.Sort(pages)
	return pages
}

// sizeByWord is how long all frames are, one behind the other.
func sizeByWord(l []api.Record) int {
	var all []byte
	for _, r := range l {
		f, _ := rec.Frame(r)
		all = append(all, f...)
	}
	return len(all)
}

// lookLists holds Touched and Size against the document's words.
func lookLists(t *testing.T, l []api.Record) {
	t.Helper()
	was := deep(l)
	if got, want := mend.Touched(l), touchedByWord(l); !slices.Equal(got, want) {
		t.Fatalf("Touched(%v): %v, not %v", l, got, want)
	}
	if got, want := mend.Size(l), sizeByWord(l); got != want {
		t.Fatalf("Size(%v): %d, not %d", l, got, want)
	}
	if !reflect.DeepEqual(deep(l), was) {
		t.Fatalf("what was handed in became %v, and was %v", deep(l), was)
	}
}

func newPage(t *testing.T, id int) *page.Page {
	t.Helper()
	p, e := page.New(id)
	if e != api.OK {
		t.Fatal("no page:", id, e)
	}
	return p
}

func pair(key, value string) api.Pair { return api.Pair{Key: key, Value: value} }

// plain is a record without a change.
func plain(k api.Kind, l api.Lsn, txn int, prev api.Lsn) api.Record {
	return api.Record{Kind: k, Lsn: l, Txn: txn, Prev: prev}
}

func commit(l api.Lsn, txn int, prev api.Lsn) api.Record { return plain(api.RecCommit, l, txn, prev) }
func abort(l api.Lsn, txn int, prev api.Lsn) api.Record  { return plain(api.RecAbort, l, txn, prev) }
func end(l api.Lsn, txn int, prev api.Lsn) api.Record    { return plain(api.RecEnd, l, txn, prev) }
func save(l api.Lsn, txn int, prev api.Lsn) api.Record   { return plain(api.RecSave, l, txn, prev) }
func opens(l api.Lsn) api.Record                         { return plain(api.RecOpen, l, 0, 0) }

func check(l api.Lsn, txns []api.Txn, dirty []api.Dirty) api.Record {
	return api.Record{Kind: api.RecCheck, Lsn: l, Txns: txns, Dirty: dirty}
}

func insert(key, value string) api.Act { return api.Act{Kind: api.ActInsert, Key: key, New: value} }
func change(key, old, new string) api.Act {
	return api.Act{Kind: api.ActUpdate, Key: key, Old: old, New: new}
}
func remove(key, value string) api.Act { return api.Act{Kind: api.ActDelete, Key: key, Old: value} }

func update(l api.Lsn, txn int, prev api.Lsn, page int, a api.Act) api.Record {
	return api.Record{Kind: api.RecUpdate, Lsn: l, Txn: txn, Prev: prev, Page: page, Act: a}
}

func undo(l api.Lsn, txn int, prev, undo api.Lsn, page int, a api.Act) api.Record {
	return api.Record{Kind: api.RecUndo, Lsn: l, Txn: txn, Prev: prev, Undo: undo, Page: page, Act: a}
}

// record is one of a kind, of the page 3, whose Undo is 0.
func record(k api.Kind, l api.Lsn, txn int, prev api.Lsn) api.Record {
	switch k {
	case api.RecUpdate:
		return update(l, txn, prev, 3, insert("a", "x"))
	case api.RecUndo:
		return undo(l, txn, prev, 0, 3, remove("a", "x"))
	case api.RecOpen, api.RecCheck:
		return plain(k, l, 0, 0)
	}
	return plain(k, l, txn, prev)
}

// kinds is those that are a transaction's.
func kinds() []api.Kind {
	return []api.Kind{api.RecUpdate, api.RecUndo, api.RecCommit, api.RecAbort, api.RecEnd, api.RecSave}
}

func everyKind() []api.Kind { return append(kinds(), api.RecOpen, api.RecCheck) }

func text(n int) string { return strings.Repeat("k", n) }

// deep is records in memory of their own, with what stands in the room behind their lists.
func deep(l []api.Record) []api.Record {
	c := []api.Record{}
	for _, r := range l[:cap(l)] {
		r.Txns = append([]api.Txn{}, r.Txns[:cap(r.Txns)]...)
		r.Dirty = append([]api.Dirty{}, r.Dirty[:cap(r.Dirty)]...)
		c = append(c, r)
	}
	return c
}

// ints is numbers at which something might go wrong.
func ints() []int {
	return []int{math.MinInt, math.MinInt + 1, math.MinInt32 - 1, math.MinInt32, -1<<32 + 1, -257, -256, -5, -2, -1, 0, 1, 2, 3, 4, 5, 15, 16, 17, 255, 256, 257,
		api.MaxTxn - 1, api.MaxTxn, api.MaxTxn + 1, math.MaxInt32, math.MaxInt32 + 1, 1 << 32, 1<<32 + 1, 1 << 60, 1<<60 + 15, 1<<60 + 16, math.MaxInt - 1, math.MaxInt}
}

// ends asks that something comes to its end.
func ends(t *testing.T, what string, do func()) {
	t.Helper()
	over := make(chan any, 1)
	go func() {
		defer func() { over <- recover() }()
		do()
	}()
	select {
	case p := <-over:
		if p != nil {
			t.Fatalf("%s: a panic: %v", what, p)
		}
	case <-time.After(5 * time.Minute):
		t.Fatalf("%s: no end", what)
	}
}
