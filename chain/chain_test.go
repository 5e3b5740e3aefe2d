package chain_test

import (
	"fmt"
	"math"
	"testing"

	"flotilla/api"
	"flotilla/chain"
)

// the chapter's example

func TestExample(t *testing.T) {
	w := newTwin(t).opened(7)
	w.noted(plain(api.RecCommit, 16, 7, 0))
	w.is(7, api.TxnCommitted, 16, 0, 27)
	w.noted(plain(api.RecEnd, 32, 7, 16))
	w.isGone(7)
}

// 17.1: New, Open

func TestNewHasNone(t *testing.T) {
	c := chain.New()
	if l := c.Rows(); len(l) != 0 {
		t.Errorf("Rows: %v", l)
	}
	for _, id := range ints() {
		if _, ok := c.Row(id); ok || c.Gone(id) {
			t.Errorf("%d is there", id)
		}
	}
	if a, b := chain.New(), chain.New(); a.Open(1) != api.OK || b.Open(1) != api.OK {
		t.Error("two tables have one transaction")
	}
}

func TestOpen(t *testing.T) {
	for _, id := range []int{1, 2, 7, 255, 256, 1 << 16, api.MaxTxn - 1, api.MaxTxn} {
		w := newTwin(t)
		if e := w.open(id); e != api.OK {
			t.Fatalf("Open(%d): %d", id, e)
		}
		w.is(id, api.TxnOpen, 0, 0, 0)
		if e := w.open(id); e != api.ErrTwice {
			t.Fatalf("Open(%d) again: %d", id, e)
		}
		w.is(id, api.TxnOpen, 0, 0, 0)
	}
}

func TestOpenOfNoNumber(t *testing.T) {
	w := newTwin(t).opened(1, 7)
	for _, id := range []int{-1, 0, -7, api.MaxTxn + 1, api.MaxTxn + 7, math.MaxInt32, 1<<32 + 2, 1<<40 + 2, math.MaxInt, math.MaxInt - 1, math.MinInt32, -1<<32 + 2, math.MinInt, math.MinInt + 2} {
		for range 2 { // what was refused isn't there
			if e := w.open(id); e != api.ErrArg {
				t.Fatalf("Open(%d): %d", id, e)
			}
			w.isGone(id)
		}
	}
	w.same("Rows", len(w.table.Rows()), 0)
}

func TestOpenOfOneThatIsThere(t *testing.T) {
	w := newTwin(t).opened(7)
	twice := func(last, next api.Lsn, state api.TxnState, kept int) {
		t.Helper()
		w.same("Open again", w.open(7), api.ErrTwice)
		w.is(7, state, last, next, kept)
	}
	w.noted(update(32, 7, 0))
	twice(32, 32, api.TxnOpen, 100)
	w.save(7)
	w.noted(plain(api.RecAbort, 48, 7, 32))
	twice(48, 32, api.TxnAborted, 73)
	w.opened(8).noted(plain(api.RecCommit, 64, 8, 0))
	w.same("Open of a committed one", w.open(8), api.ErrTwice)
}

func TestOpenOfOneThatIsGoneAgain(t *testing.T) {
	ways := map[string]func(w *twin){
		"Gone":           func(w *twin) { w.same("Gone", w.gone(7), true) },
		"Commit and End": func(w *twin) { w.noted(plain(api.RecCommit, 64, 7, 48), plain(api.RecEnd, 80, 7, 64)) },
		"Abort and End":  func(w *twin) { w.noted(plain(api.RecAbort, 64, 7, 48), plain(api.RecEnd, 80, 7, 64)) },
		"Abort, back and End": func(w *twin) {
			w.noted(plain(api.RecAbort, 64, 7, 48), undo(80, 7, 64, 0), plain(api.RecEnd, 96, 7, 80))
		},
		"Abort, and Gone": func(w *twin) { w.noted(plain(api.RecAbort, 64, 7, 48)); w.gone(7) },
	}
	for name, way := range ways {
		w := newTwin(t).opened(7)
		w.noted(update(32, 7, 0))
		w.save(7)
		w.noted(update(48, 7, 32))
		w.save(7)
		way(w)
		w.isGone(7)
		if e := w.open(7); e != api.OK {
			t.Fatalf("%s, and Open: %d", name, e)
		}
		w.is(7, api.TxnOpen, 0, 0, 0)
		w.same("Rows", len(w.table.Rows()), 0)
		_, e := w.mark(7, 0)
		w.same("Mark", e, api.ErrNone)
		w.noted(plain(api.RecSave, 20, 7, 0)) // LSNs of the one that is gone don't count
		w.is(7, api.TxnOpen, 20, 0, 54)
	}
}

// 17.1: Need

func TestNeedOfEachKind(t *testing.T) {
	first := map[api.Kind]int{api.RecUpdate: 100, api.RecSave: 54}
	later := map[api.Kind]int{api.RecUpdate: 46}
	for _, k := range kinds() {
		w := newTwin(t)
		w.same("Need of one that isn't there", w.need(record(k, 64, 7, 0)), 0)
		w.opened(7)
		w.same(fmt.Sprint("Need of a first one of kind ", k), w.need(record(k, 64, 7, 0)), first[k])
		w.is(7, api.TxnOpen, 0, 0, 0)
		w.noted(plain(api.RecSave, 16, 7, 0))
		w.same(fmt.Sprint("Need of kind ", k, " behind RecSave"), w.need(record(k, 64, 7, 16)), later[k])
		w.noted(update(32, 7, 16))
		w.same(fmt.Sprint("Need of kind ", k, " behind RecUpdate"), w.need(record(k, 64, 7, 32)), later[k])
		w.noted(undo(48, 7, 32, 16))
		w.same(fmt.Sprint("Need of kind ", k, " behind RecUndo"), w.need(record(k, 64, 7, 48)), later[k])
		w.is(7, api.TxnOpen, 48, 16, 54)
		w.same("Need of another one", w.need(record(k, 64, 8, 0)), 0)
		w.gone(7)
		w.same("Need of one that is gone", w.need(record(k, 64, 7, 0)), 0)
	}
}

func TestNeedOfOneThatCommittedFirst(t *testing.T) {
	for _, k := range []api.Kind{api.RecCommit, api.RecAbort} {
		w := newTwin(t).opened(7).noted(plain(k, 16, 7, 0))
		was := w.table.Kept(7)
		w.same("Need of RecSave, which isn't the first", w.need(plain(api.RecSave, 32, 7, 16)), 0)
		w.same("Need of RecEnd", w.need(plain(api.RecEnd, 32, 7, 16)), 0)
		w.same("Kept", w.table.Kept(7), was)
	}
}

func TestNeedOfEachLength(t *testing.T) {
	for i, a := range acts() {
		r := plain(api.RecUpdate, 32, 7, 0)
		r.Act, r.Page = a, i%16
		w := newTwin(t).opened(7)
		w.same("Need", w.need(r), 54+44+letters(a))
		w.noted(r)
		w.is(7, api.TxnOpen, 32, 32, 98+letters(a))
		r.Lsn, r.Prev = 48, 32
		w.same("Need", w.need(r), 44+letters(a))
		w.noted(r)
		w.is(7, api.TxnOpen, 48, 48, 142+2*letters(a))
	}
}

// What is needed hangs neither on LSNs nor on the transaction's number.
func TestNeedAtTheEdges(t *testing.T) {
	for _, id := range []int{1, 7, api.MaxTxn} {
		for _, l := range []api.Lsn{16, 17, 255, 256, 1 << 32, 1<<60 + 15} {
			w := newTwin(t).opened(id)
			w.same("Need", w.need(update(l, id, 0)), 100)
			w.same("Need", w.need(update(l, id, l-1)), 100)
			w.same("Need", w.need(plain(api.RecSave, l, id, 0)), 54)
			w.noted(update(l, id, 0))
			w.is(id, api.TxnOpen, l, l, 100)
		}
	}
}

func TestNeedOfARecordThatMayNotBe(t *testing.T) {
	w := newTwin(t).opened(7)
	for _, r := range wrong(64, 0) {
		w.same("Need", w.need(r), 0)
	}
	w.is(7, api.TxnOpen, 0, 0, 0)
	w.noted(update(32, 7, 0))
	for _, r := range wrong(64, 32) {
		w.same("Need", w.need(r), 0)
	}
	for _, id := range []int{0, -7, api.MaxTxn + 1, math.MaxInt, math.MinInt} {
		w.same("Need", w.need(update(64, id, 0)), 0)
	}
	w.same("Need of RecOpen", w.need(plain(api.RecOpen, 64, 0, 0)), 0)
	w.same("Need of RecCheck", w.need(plain(api.RecCheck, 64, 0, 0)), 0)
	w.is(7, api.TxnOpen, 32, 32, 100)
}

func TestNeedChangesNothing(t *testing.T) {
	w := newTwin(t).opened(7, 8).noted(update(32, 7, 0))
	w.save(7)
	for _, k := range kinds() {
		for _, prev := range []api.Lsn{0, 32, 33} {
			r := record(k, 64, 7, prev)
			w.same("Need again", w.need(r), w.need(r))
			w.need(record(k, 64, 8, prev))
			w.is(7, api.TxnOpen, 32, 32, 100)
			w.is(8, api.TxnOpen, 0, 0, 0)
		}
	}
}

// 17.4: a nil table

func TestNilTable(t *testing.T) {
	var c *chain.Table
	w := &twin{t: t, table: c}
	for _, id := range ints() {
		w.same("Open", c.Open(id), api.ErrArg)
		for _, k := range kinds() {
			w.same("Need", c.Need(record(k, 64, id, 0)), 0)
			w.same("Note", c.Note(record(k, 64, id, 0)), api.ErrArg)
		}
		n, e := c.Save(id)
		w.same("Save", n, 0)
		w.same("Save", e, api.ErrArg)
		for _, n := range ints() {
			l, e := c.Mark(id, n)
			w.same("Mark", l, api.Lsn(0))
			w.same("Mark", e, api.ErrArg)
			w.same("Drop", c.Drop(id, n), api.ErrArg)
		}
		row, ok := c.Row(id)
		w.same("Row", row, api.Txn{})
		w.same("Row", ok, false)
		w.same("Next", c.Next(id), api.Lsn(0))
		w.same("Kept", c.Kept(id), 0)
		w.same("Gone", c.Gone(id), false)
	}
	for _, r := range wrong(64, 0) {
		w.same("Need", c.Need(r), 0)
		w.same("Note", c.Note(r), api.ErrArg)
	}
	w.same("Rows", len(c.Rows()), 0)
}
