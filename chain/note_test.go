package chain_test

import (
	"fmt"
	"math"
	"testing"

	"flotilla/api"
)

// 17.2

// At first the transaction 7 has two updates (16, 32) and a RecSave (48): it needs 54 and twice 46. Behind its RecAbort (64) it is aborted, behind its RecCommit (64) committed.
func inState(t *testing.T, s api.TxnState) (*twin, api.Lsn) {
	t.Helper()
	w := newTwin(t).opened(7, 8)
	w.noted(update(16, 7, 0), update(32, 7, 16), plain(api.RecSave, 48, 7, 32))
	switch s {
	case api.TxnCommitted:
		w.noted(plain(api.RecCommit, 64, 7, 48))
		w.is(7, s, 64, 0, 27)
		return w, 64
	case api.TxnAborted:
		w.noted(plain(api.RecAbort, 64, 7, 48))
		w.is(7, s, 64, 32, 119)
		return w, 64
	}
	w.is(7, s, 48, 32, 146)
	return w, 48
}

func states() []api.TxnState {
	return []api.TxnState{api.TxnOpen, api.TxnCommitted, api.TxnAborted}
}

// ErrArg

func TestNoteOfARecordThatMayNotBe(t *testing.T) {
	for _, s := range states() {
		w, last := inState(t, s)
		for _, r := range wrong(80, last) {
			w.refused(api.ErrArg, r)
			r.Txn = 9 // isn't there: ErrArg comes first
			w.refused(api.ErrArg, r)
		}
		for _, id := range []int{0, -1, -7, api.MaxTxn + 1, math.MaxInt, math.MinInt} {
			for _, k := range kinds() {
				w.refused(api.ErrArg, record(k, 80, id, last))
			}
		}
	}
}

func TestNoteOfCheckpoints(t *testing.T) {
	for _, s := range states() {
		w, last := inState(t, s)
		w.refused(api.ErrArg, plain(api.RecOpen, 80, 0, 0))
		w.refused(api.ErrArg, plain(api.RecCheck, 80, 0, 0))
		r := plain(api.RecCheck, 80, 0, 0)
		r.Txns, r.Dirty = []api.Txn{{ID: 7, State: s, Last: last}}, []api.Dirty{{Page: 3, Rec: 16}}
		w.refused(api.ErrArg, r)
	}
}

// ErrNone

func TestNoteOfOneThatIsNotThere(t *testing.T) {
	w, _ := inState(t, api.TxnOpen)
	for _, k := range kinds() {
		for _, id := range []int{1, 6, 9, api.MaxTxn} {
			w.refused(api.ErrNone, record(k, 80, id, 0))
			w.refused(api.ErrNone, record(k, 80, id, 48)) // ErrNone comes ahead of ErrState
			w.isGone(id)
		}
	}
	w.gone(7)
	for _, k := range kinds() {
		w.refused(api.ErrNone, record(k, 80, 7, 48))
		w.refused(api.ErrNone, record(k, 80, 7, 0))
	}
}

// ErrState: Prev

func TestNoteOfAnotherPrev(t *testing.T) {
	for _, s := range states() {
		w, last := inState(t, s)
		for _, k := range kinds() {
			for _, prev := range []api.Lsn{0, 1, 15, 16, 32, 47, 49, 63, 65, 79} {
				w.refused(api.ErrState, record(k, 80, 7, prev))
			}
			if s != api.TxnOpen {
				w.refused(api.ErrState, record(k, 80, 7, 48))
			}
			w.refused(api.ErrState, record(k, 1<<60+15, 7, last+1))
			w.refused(api.ErrState, record(k, 80, 8, 48)) // of 8 there is none yet
			w.refused(api.ErrState, record(k, 80, 8, 1))
		}
		w.is(8, api.TxnOpen, 0, 0, 0)
	}
}

func TestPrevIsItsOwnLastRecord(t *testing.T) {
	w := newTwin(t).opened(7, 8)
	w.noted(update(16, 7, 0), update(32, 8, 0))
	w.refused(api.ErrState, update(48, 7, 32))
	w.refused(api.ErrState, update(48, 8, 16))
	w.refused(api.ErrState, update(48, 7, 0))
	w.noted(update(48, 7, 16), update(64, 8, 32))
	w.is(7, api.TxnOpen, 48, 48, 146)
	w.is(8, api.TxnOpen, 64, 64, 146)
}

// The LSN of a record need only be above the transaction's own last one.
func TestLsnsOfOthersDoNotCount(t *testing.T) {
	w := newTwin(t).opened(7, 8)
	w.noted(update(1000, 7, 0), update(16, 8, 0), update(1000, 8, 16))
	w.is(8, api.TxnOpen, 1000, 1000, 146)
}

// ErrState: the state

func TestEachKindInEachState(t *testing.T) {
	type fate struct {
		gone       bool
		state      api.TxnState
		next, kept int
	}
	good := map[api.TxnState]map[api.Kind]fate{
		api.TxnOpen: {
			api.RecUpdate: {state: api.TxnOpen, next: 80, kept: 192},
			api.RecUndo:   {state: api.TxnOpen, next: 0, kept: 100},
			api.RecCommit: {state: api.TxnCommitted, next: 0, kept: 27},
			api.RecAbort:  {state: api.TxnAborted, next: 32, kept: 119},
			api.RecSave:   {state: api.TxnOpen, next: 32, kept: 146},
		},
		api.TxnCommitted: {
			api.RecEnd: {gone: true},
		},
		api.TxnAborted: {
			api.RecUndo: {state: api.TxnAborted, next: 0, kept: 73},
			api.RecEnd:  {gone: true},
		},
	}
	for _, s := range states() {
		for _, k := range kinds() {
			w, last := inState(t, s)
			f, ok := good[s][k]
			r := record(k, 80, 7, last)
			if !ok {
				w.refused(api.ErrState, r)
				continue
			}
			w.noted(r)
			if f.gone {
				w.isGone(7)
				w.refused(api.ErrNone, record(k, 96, 7, 80))
			} else {
				w.is(7, f.state, 80, api.Lsn(f.next), f.kept)
			}
			w.is(8, api.TxnOpen, 0, 0, 0)
		}
	}
}

func TestEachKindAsTheFirstRecord(t *testing.T) {
	for _, k := range []api.Kind{api.RecUndo, api.RecEnd} {
		w := newTwin(t).opened(7)
		w.refused(api.ErrState, record(k, 16, 7, 0))
		w.is(7, api.TxnOpen, 0, 0, 0)
	}
	w := newTwin(t).opened(1, 2, 3, 4)
	w.noted(update(16, 1, 0))
	w.is(1, api.TxnOpen, 16, 16, 100)
	w.noted(plain(api.RecSave, 17, 2, 0))
	w.is(2, api.TxnOpen, 17, 0, 54)
	w.noted(plain(api.RecCommit, 18, 3, 0))
	w.is(3, api.TxnCommitted, 18, 0, 27)
	w.noted(plain(api.RecAbort, 19, 4, 0))
	w.is(4, api.TxnAborted, 19, 0, 0) // never below 0
	w.noted(plain(api.RecEnd, 32, 4, 19), plain(api.RecEnd, 33, 3, 18))
	w.isGone(3)
	w.isGone(4)
}

// What each does, one behind the other.

func TestSavesNeedOnce(t *testing.T) {
	w := newTwin(t).opened(7)
	w.noted(plain(api.RecSave, 16, 7, 0))
	w.is(7, api.TxnOpen, 16, 0, 54)
	w.noted(plain(api.RecSave, 32, 7, 16))
	w.is(7, api.TxnOpen, 32, 0, 54)
	w.noted(update(48, 7, 32))
	w.is(7, api.TxnOpen, 48, 48, 100)
	w.noted(plain(api.RecSave, 64, 7, 48))
	w.is(7, api.TxnOpen, 64, 48, 100)
	w.noted(plain(api.RecAbort, 80, 7, 64))
	w.is(7, api.TxnAborted, 80, 48, 73)
	w.noted(undo(96, 7, 80, 0))
	w.is(7, api.TxnAborted, 96, 0, 27)
	w.noted(plain(api.RecEnd, 112, 7, 96))
	w.isGone(7)
}

func TestARecSaveIsNoSavepoint(t *testing.T) {
	w := newTwin(t).opened(7)
	last := api.Lsn(0)
	for i := range api.Lsn(8) {
		w.noted(plain(api.RecSave, 16+i, 7, last))
		last = 16 + i
	}
	_, e := w.mark(7, 0)
	w.same("Mark", e, api.ErrNone)
	n, e := w.save(7)
	w.same("Save", n, 0)
	w.same("Save", e, api.OK)
}

func TestCommitNeedsItsEnd(t *testing.T) {
	for updates := range 5 {
		w := newTwin(t).opened(7)
		last := api.Lsn(0)
		for range updates {
			w.noted(update(last+16, 7, last))
			last += 16
		}
		w.noted(plain(api.RecCommit, last+16, 7, last))
		w.is(7, api.TxnCommitted, last+16, 0, 27)
		w.noted(plain(api.RecEnd, last+32, 7, last+16))
		w.isGone(7)
	}
}

// One that was aborted may end with something left to be taken back: nothing in the way of it is named.
func TestEndAheadOfTheLastUndo(t *testing.T) {
	w := newTwin(t).opened(7).noted(update(16, 7, 0), plain(api.RecAbort, 32, 7, 16))
	w.is(7, api.TxnAborted, 32, 16, 73)
	w.noted(plain(api.RecEnd, 48, 7, 32))
	w.isGone(7)
}

// RecUndo

func TestUndoBelowAtAndAbove(t *testing.T) {
	for _, aborted := range []bool{false, true} {
		for _, next := range []api.Lsn{16, 17, 100, 1<<60 + 10} {
			for d := -3; d <= 3; d++ {
				to := next + api.Lsn(d)
				w := newTwin(t).opened(7).noted(update(next, 7, 0))
				last, kept, state := next, 100, api.TxnOpen
				if aborted {
					w.noted(plain(api.RecAbort, next+1, 7, next))
					last, kept, state = next+1, 73, api.TxnAborted
				}
				r := undo(next+4, 7, last, to)
				if to >= next {
					w.refused(api.ErrState, r)
					w.is(7, state, last, next, kept)
					continue
				}
				w.noted(r)
				w.is(7, state, next+4, to, kept-46)
			}
		}
	}
}

func TestUndoWithNothingToTakeBack(t *testing.T) {
	w := newTwin(t).opened(7)
	for _, to := range []api.Lsn{0, 1, 15, 16, 47} {
		w.refused(api.ErrState, undo(48, 7, 0, to))
	}
	w.noted(plain(api.RecSave, 16, 7, 0))
	for _, to := range []api.Lsn{0, 1, 15, 16, 47} {
		w.refused(api.ErrState, undo(48, 7, 16, to))
	}
	w.noted(update(48, 7, 16), undo(64, 7, 48, 0))
	for _, to := range []api.Lsn{0, 1, 15, 16, 47, 48, 63} {
		w.refused(api.ErrState, undo(80, 7, 64, to))
	}
	w.is(7, api.TxnOpen, 64, 0, 54)
}

// An Undo may pass over records, and need not tell one that there is.
func TestUndoThatPassesOver(t *testing.T) {
	w := newTwin(t).opened(7)
	w.noted(update(16, 7, 0), update(32, 7, 16), update(48, 7, 32))
	w.is(7, api.TxnOpen, 48, 48, 192)
	w.noted(undo(64, 7, 48, 31))
	w.is(7, api.TxnOpen, 64, 31, 146)
	w.refused(api.ErrState, undo(80, 7, 64, 31))
	w.refused(api.ErrState, undo(80, 7, 64, 32))
	w.noted(undo(80, 7, 64, 30), undo(81, 7, 80, 1))
	w.is(7, api.TxnOpen, 81, 1, 54)
	w.noted(undo(96, 7, 81, 0))
	w.is(7, api.TxnOpen, 96, 0, 8)
}

func TestUndoSizes(t *testing.T) {
	most := update(16, 7, 0)
	most.Act = api.Act{Kind: api.ActUpdate, Key: text(16), Old: text(32), New: text(32)}
	for _, a := range acts() {
		w := newTwin(t).opened(7).noted(most)
		w.is(7, api.TxnOpen, 16, 16, 178)
		r := undo(32, 7, 16, 0)
		r.Act = a
		w.noted(r)
		w.is(7, api.TxnOpen, 32, 0, 134-letters(a))
	}
}

// 17.5: a need is never below 0, whatever is noted.
func TestANeedIsNeverBelowNought(t *testing.T) {
	long := func(l, prev, to api.Lsn) api.Record {
		r := undo(l, 7, prev, to)
		r.Act = api.Act{Kind: api.ActUpdate, Key: text(16), Old: text(32), New: text(32)}
		return r
	}
	w := newTwin(t).opened(7).noted(update(100, 7, 0), long(116, 100, 50))
	w.is(7, api.TxnOpen, 116, 50, 0)
	w.noted(long(132, 116, 40))
	w.is(7, api.TxnOpen, 132, 40, 0)
	w.noted(update(148, 7, 132)) // it grows from 0 on
	w.is(7, api.TxnOpen, 148, 148, 46)
	w.noted(plain(api.RecSave, 149, 7, 148))
	w.is(7, api.TxnOpen, 149, 148, 46)
	w.noted(undo(164, 7, 149, 40))
	w.is(7, api.TxnOpen, 164, 40, 0)
	w.noted(update(165, 7, 164), undo(166, 7, 165, 39), plain(api.RecAbort, 180, 7, 166))
	w.is(7, api.TxnAborted, 180, 39, 0)
	for i := range api.Lsn(10) {
		w.noted(long(196+i, w.words.find(7).last(), 30-i))
		w.is(7, api.TxnAborted, 196+i, 30-i, 0)
	}
	w.noted(plain(api.RecEnd, 300, 7, 205))
	w.isGone(7)
}

// Exactly 27 and exactly a frame's size are still needed, and then nothing is.
func TestANeedComesToNought(t *testing.T) {
	w := newTwin(t).opened(7).noted(update(100, 7, 0))
	r := undo(116, 7, 100, 50)
	r.Act.Old = text(28) // 73 bytes: 27 of 100 are left
	w.noted(r)
	w.is(7, api.TxnOpen, 116, 50, 27)
	w.noted(plain(api.RecAbort, 132, 7, 116))
	w.is(7, api.TxnAborted, 132, 50, 0)

	w = newTwin(t).opened(7).noted(update(100, 7, 0), update(101, 7, 100))
	r = undo(116, 7, 101, 50)
	r.Act.Old = text(28)
	w.noted(r)
	w.is(7, api.TxnOpen, 116, 50, 73)
	r.Lsn, r.Prev, r.Undo = 132, 116, 49
	w.noted(r)
	w.is(7, api.TxnOpen, 132, 49, 0)
}

func TestNoteOfEachPage(t *testing.T) {
	w := newTwin(t).opened(7)
	last := api.Lsn(0)
	for p := range api.MaxPages {
		r := update(last+16, 7, last)
		r.Page = p
		w.noted(r)
		last += 16
		w.is(7, api.TxnOpen, last, last, 54+46*(p+1))
	}
}

func TestSeveralBesideOneAnother(t *testing.T) {
	w := newTwin(t).opened(3, 1, 2)
	w.noted(update(16, 1, 0), update(17, 2, 0), update(18, 3, 0), update(32, 2, 17))
	w.noted(plain(api.RecCommit, 48, 1, 16), plain(api.RecAbort, 49, 2, 32), undo(64, 2, 49, 17))
	w.is(1, api.TxnCommitted, 48, 0, 27)
	w.is(2, api.TxnAborted, 64, 17, 73)
	w.is(3, api.TxnOpen, 18, 18, 100)
	w.noted(plain(api.RecEnd, 80, 1, 48))
	w.isGone(1)
	w.is(2, api.TxnAborted, 64, 17, 73)
	w.is(3, api.TxnOpen, 18, 18, 100)
	w.same("Rows", fmt.Sprint(w.table.Rows()), "[{2 2 64} {3 0 18}]")
}
