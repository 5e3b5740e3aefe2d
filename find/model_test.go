package find_test

import (
	"math"
	"reflect"
	"slices"
	"strings"
	"testing"
	"time"

	"flotilla/api"
	"flotilla/find"
	"flotilla/rec"
)

// What the document says, a second time: nothing is carried from record to record; each transaction and each page is looked for among all records, and what is taken back next from the end.

// life is a transaction's records behind its last RecCommit and RecEnd, and whether there was one of these.
func life(l []api.Record, id int) ([]api.Record, bool) {
	var own []api.Record
	over := false
	for _, r := range l {
		switch {
		case r.Txn != id:
		case r.Kind == api.RecCommit || r.Kind == api.RecEnd:
			own, over = nil, true
		default:
			own = append(own, r)
		}
	}
	return own, over
}

// lastChange is what the last change among records tells to be taken back next; false, if there is none.
func lastChange(l []api.Record) (api.Lsn, bool) {
	for _, r := range slices.Backward(l) {
		switch r.Kind {
		case api.RecUpdate:
			return r.Lsn, true
		case api.RecUndo:
			return r.Undo, true
		}
	}
	return 0, false
}

func hasAbort(l []api.Record) bool {
	return slices.ContainsFunc(l, func(r api.Record) bool { return r.Kind == api.RecAbort })
}

// firstChange is the LSN of the first change of a page; 0, if there is none.
func firstChange(l []api.Record, page int) api.Lsn {
	for _, r := range l {
		if (r.Kind == 1 || r.Kind == 2) && r.Page == page {
			return r.Lsn
		}
	}
	return 0
}

// told is what the record with an LSN tells, record by record back.
func told(l []api.Record, at api.Lsn) api.Lsn {
	for _, r := range l {
		if r.Lsn != at {
			continue
		}
		switch r.Kind {
		case api.RecUpdate:
			return r.Lsn
		case api.RecUndo:
			return r.Undo
		}
		return told(l, r.Prev)
	}
	return 0
}

func isLog(l []api.Record) bool {
	for i, r := range l {
		if rec.Check(r) != 0 || i > 0 && !(l[i-1].Lsn < r.Lsn) {
			return false
		}
	}
	return true
}

// allIDs is those of records and of rows, rising, each once.
func allIDs(l []api.Record, rows []api.Txn) []int {
	var ids []int
	for _, r := range l {
		if r.Txn != 0 {
			ids = append(ids, r.Txn)
		}
	}
	for _, t := range rows {
		ids = append(ids, t.ID)
	}
	slices.Sort(ids)
	return slices.Compact(ids)
}

// leftOf is what records leave that stand behind a checkpoint; ahead is what stands ahead of it.
func leftOf(ahead []api.Record, check api.Record, l []api.Record) find.Left {
	var left find.Left
	for _, id := range allIDs(l, check.Txns) {
		own, over := life(l, id)
		row, goes, next := api.Txn{ID: id}, len(own) > 0, api.Lsn(0)
		for _, t := range check.Txns {
			if t.ID == id && t.State != 1 && !over {
				row, goes, next = t, true, told(ahead, t.Last)
			}
		}
		if !goes {
			continue
		}
		if hasAbort(own) {
			row.State = 2
		}
		if len(own) > 0 {
			row.Last = own[len(own)-1].Lsn
		}
		if n, ok := lastChange(own); ok {
			next = n
		}
		left.Txns, left.Next = append(left.Txns, row), append(left.Next, next)
	}
	for page := range 16 {
		from := firstChange(l, page)
		for _, d := range check.Dirty {
			if d.Page == page {
				from = d.Rec
			}
		}
		if from > 0 {
			left.Dirty = append(left.Dirty, api.Dirty{Page: page, Rec: from})
		}
	}
	for _, d := range left.Dirty {
		if left.Redo == 0 {
			left.Redo = d.Rec
		}
		left.Redo = min(left.Redo, d.Rec)
	}
	return left
}

func allByWord(l []api.Record) (find.Left, api.Errno) {
	if !isLog(l) {
		return find.Left{}, 1
	}
	return leftOf(nil, api.Record{}, l), 0
}

func shortByWord(l []api.Record) (find.Left, api.Errno) {
	if !isLog(l) {
		return find.Left{}, 1
	}
	for i, r := range slices.Backward(l) {
		if r.Kind == api.RecCheck {
			return leftOf(l[:i], r, l[i+1:]), 0
		}
	}
	return leftOf(nil, api.Record{}, l), 0
}

func nextByWord(l []api.Record, at api.Lsn) api.Lsn {
	if !isLog(l) {
		return 0
	}
	return told(l, at)
}

// same holds two against each other; nil and empty lists are one.
func same(a, b find.Left) bool {
	return slices.Equal(a.Txns, b.Txns) && slices.Equal(a.Next, b.Next) && slices.Equal(a.Dirty, b.Dirty) && a.Redo == b.Redo
}

func isNothing(l find.Left) bool { return same(l, find.Left{}) }

// look holds all that the calls tell of records against the document's words, and asks that the records stay as they were.
func look(t *testing.T, l []api.Record) {
	t.Helper()
	was := deep(l)
	want := api.OK
	if !isLog(l) {
		want = api.ErrArg
	}
	if e := find.Check(l); e != want {
		t.Fatalf("Check(%v): %d, not %d", l, e, want)
	}
	lookLeft(t, "All", l, find.All, allByWord)
	lookLeft(t, "Short", l, find.Short, shortByWord)
	for _, r := range l {
		lookNext(t, l, r.Lsn)
	}
	if len(l) > 0 {
		lookNext(t, l, l[0].Lsn-1)
		lookNext(t, l, l[len(l)-1].Lsn+1)
	}
	lookNext(t, l, 0)
	if !reflect.DeepEqual(deep(l), was) {
		t.Fatalf("what was handed in became %v, and was %v", l, was)
	}
}

func lookLeft(t *testing.T, what string, l []api.Record, call, words func([]api.Record) (find.Left, api.Errno)) {
	t.Helper()
	got, e := call(l)
	want, wantE := words(l)
	if e != wantE || !same(got, want) {
		t.Fatalf("%s(%v): %v, %d, not %v, %d", what, l, got, e, want, wantE)
	}
}

func lookNext(t *testing.T, l []api.Record, at api.Lsn) {
	t.Helper()
	if got, want := find.Next(l, at), nextByWord(l, at); got != want {
		t.Fatalf("Next(%v, %d): %d, not %d", l, at, got, want)
	}
}

// leaves asks for what All tells, written out, and holds all the rest against the document's words.
func leaves(t *testing.T, l []api.Record, want find.Left) {
	t.Helper()
	got, e := find.All(l)
	if e != api.OK || !same(got, want) {
		t.Fatalf("All(%v): %v, %d, not %v", l, got, e, want)
	}
	look(t, l)
}

// leavesShort asks for what Short tells, written out, and holds all the rest against the document's words.
func leavesShort(t *testing.T, l []api.Record, want find.Left) {
	t.Helper()
	got, e := find.Short(l)
	if e != api.OK || !same(got, want) {
		t.Fatalf("Short(%v): %v, %d, not %v", l, got, e, want)
	}
	look(t, l)
}

// refused asks that records are no log: ErrArg, and nothing is told of them.
func refused(t *testing.T, l []api.Record) {
	t.Helper()
	if e := find.Check(l); e != api.ErrArg {
		t.Fatalf("Check(%v): %d", l, e)
	}
	if left, e := find.All(l); e != api.ErrArg || !isNothing(left) {
		t.Fatalf("All(%v): %v, %d", l, left, e)
	}
	if left, e := find.Short(l); e != api.ErrArg || !isNothing(left) {
		t.Fatalf("Short(%v): %v, %d", l, left, e)
	}
	for _, r := range l {
		if n := find.Next(l, r.Lsn); n != 0 {
			t.Fatalf("Next(%v, %d): %d", l, r.Lsn, n)
		}
	}
	look(t, l)
}

// plain is a record without a change.
func plain(k api.Kind, l api.Lsn, txn int, prev api.Lsn) api.Record {
	return api.Record{Kind: k, Lsn: l, Txn: txn, Prev: prev}
}

func update(l api.Lsn, txn int, prev api.Lsn, page int) api.Record {
	r := plain(api.RecUpdate, l, txn, prev)
	r.Page, r.Act = page, api.Act{Kind: api.ActInsert, Key: "a", New: "x"}
	return r
}

func undo(l api.Lsn, txn int, prev, undo api.Lsn, page int) api.Record {
	r := plain(api.RecUndo, l, txn, prev)
	r.Undo, r.Page, r.Act = undo, page, api.Act{Kind: api.ActDelete, Key: "a", Old: "x"}
	return r
}

func commit(l api.Lsn, txn int, prev api.Lsn) api.Record { return plain(api.RecCommit, l, txn, prev) }
func abort(l api.Lsn, txn int, prev api.Lsn) api.Record  { return plain(api.RecAbort, l, txn, prev) }
func end(l api.Lsn, txn int, prev api.Lsn) api.Record    { return plain(api.RecEnd, l, txn, prev) }
func save(l api.Lsn, txn int, prev api.Lsn) api.Record   { return plain(api.RecSave, l, txn, prev) }
func opens(l api.Lsn) api.Record                         { return plain(api.RecOpen, l, 0, 0) }

// check is a checkpoint with rows.
func check(l api.Lsn, txns []api.Txn, dirty []api.Dirty) api.Record {
	return api.Record{Kind: api.RecCheck, Lsn: l, Txns: txns, Dirty: dirty}
}

// record is one of a kind, of the page 3, whose Undo is 0.
func record(k api.Kind, l api.Lsn, txn int, prev api.Lsn) api.Record {
	switch k {
	case api.RecUpdate:
		return update(l, txn, prev, 3)
	case api.RecUndo:
		return undo(l, txn, prev, 0, 3)
	case api.RecOpen, api.RecCheck:
		return plain(k, l, 0, 0)
	}
	return plain(k, l, txn, prev)
}

// kinds is those that are a transaction's.
func kinds() []api.Kind {
	return []api.Kind{api.RecUpdate, api.RecUndo, api.RecCommit, api.RecAbort, api.RecEnd, api.RecSave}
}

func everyKind() []api.Kind { return append(kinds(), api.RecOpen, api.RecCheck) }

// row, from and lists write out what is left.
func row(id int, state api.TxnState, last api.Lsn) api.Txn {
	return api.Txn{ID: id, State: state, Last: last}
}

func from(page int, l api.Lsn) api.Dirty { return api.Dirty{Page: page, Rec: l} }

func txns(l ...api.Txn) []api.Txn      { return l }
func nexts(l ...api.Lsn) []api.Lsn     { return l }
func dirty(l ...api.Dirty) []api.Dirty { return l }

func text(n int) string { return strings.Repeat("k", n) }

// deep is records in memory of their own, with what stands in the room behind their lists.
func deep(l []api.Record) []api.Record {
	c := []api.Record{}
	for _, r := range l[:cap(l)] {
		r.Txns = append([]api.Txn{}, r.Txns[:cap(r.Txns)]...)
		r.Dirty = append([]api.Dirty{}, r.Dirty[:cap(r.Dirty)]...)
		c = append(c, r)
	}
	return c
}

// ints is numbers at which something might go wrong.
func ints() []int {
	return []int{math.MinInt, math.MinInt + 1, math.MinInt32 - 1, math.MinInt32, -1<<32 + 1, -257, -256, -5, -2, -1, 0, 1, 2, 3, 4, 5, 15, 16, 17, 255, 256, 257,
		api.MaxTxn - 1, api.MaxTxn, api.MaxTxn + 1, math.MaxInt32, math.MaxInt32 + 1, 1 << 32, 1<<32 + 1, 1<<60 + 15, 1<<60 + 16, math.MaxInt - 1, math.MaxInt}
}

// ends asks that something comes to its end.
func ends(t *testing.T, what string, do func()) {
	t.Helper()
	over := make(chan any, 1)
	go func() {
		defer func() { over <- recover() }()
		do()
	}()
	select {
	case p := <-over:
		if p != nil {
			t.Fatalf("%s: a panic: %v", what, p)
		}
	case <-time.After(5 * time.Minute):
		t.Fatalf("%s: no end", what)
	}
}
