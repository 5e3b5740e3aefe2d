package chain_test

import (
	"math"
	"slices"
	"testing"

	"flotilla/api"
)

// 17.3, and Rows and Gone of 17.4

func (w *twin) saved(id, want int) {
	w.t.Helper()
	n, e := w.save(id)
	w.same("Save", e, api.OK)
	w.same("Save", n, want)
	w.look(id)
}

func (w *twin) notSaved(id int, want api.Errno) {
	w.t.Helper()
	n, e := w.save(id)
	w.same("Save", e, want)
	w.same("Save", n, 0)
	w.look(id)
}

// marks asks what the savepoints of a transaction stand for, and that it has no more.
func (w *twin) marks(id int, want ...api.Lsn) {
	w.t.Helper()
	for n, l := range want {
		got, e := w.mark(id, n)
		w.same("Mark", e, api.OK)
		w.same("Mark", got, l)
	}
	for _, n := range append(ints(), len(want)) {
		if n < 0 || n >= len(want) {
			got, e := w.mark(id, n)
			w.same("Mark", e, api.ErrNone)
			w.same("Mark", got, api.Lsn(0))
		}
	}
}

func TestFourSavepointsAndAFifth(t *testing.T) {
	w := newTwin(t).opened(7, 8)
	w.marks(7)
	w.saved(7, 0)
	w.marks(7, 0)
	w.noted(update(16, 7, 0))
	w.saved(7, 1)
	w.noted(update(32, 7, 16), plain(api.RecSave, 48, 7, 32))
	w.saved(7, 2)
	w.saved(7, 3)
	w.marks(7, 0, 16, 32, 32)
	for range 3 {
		w.notSaved(7, api.ErrFull)
		w.marks(7, 0, 16, 32, 32)
	}
	w.is(7, api.TxnOpen, 48, 32, 146) // a savepoint is no record, and needs nothing
	w.marks(8)
	w.saved(8, 0)
	w.marks(8, 0)
	w.marks(7, 0, 16, 32, 32)
}

func TestSaveWithoutARecord(t *testing.T) {
	w := newTwin(t).opened(7)
	for n := range 4 {
		w.saved(7, n)
		w.is(7, api.TxnOpen, 0, 0, 0)
	}
	w.notSaved(7, api.ErrFull)
	w.same("Rows", len(w.table.Rows()), 0)
	w.same("Need", w.need(update(16, 7, 0)), 100)
}

// A savepoint stands for what was taken back next when it was made, whatever comes behind.
func TestWhatASavepointStandsFor(t *testing.T) {
	w := newTwin(t).opened(7)
	w.noted(update(16, 7, 0), update(32, 7, 16))
	w.saved(7, 0)
	w.noted(update(48, 7, 32))
	w.marks(7, 32)
	w.saved(7, 1)
	w.noted(undo(64, 7, 48, 32))
	w.saved(7, 2)
	w.marks(7, 32, 48, 32)
	w.noted(undo(80, 7, 64, 16), undo(96, 7, 80, 0))
	w.saved(7, 3)
	w.marks(7, 32, 48, 32, 0)
	w.noted(update(112, 7, 96))
	w.marks(7, 32, 48, 32, 0)
}

func TestSaveOfOneThatIsNotOpen(t *testing.T) {
	for _, k := range []api.Kind{api.RecCommit, api.RecAbort} {
		for saves := range 5 {
			w := newTwin(t).opened(7)
			w.noted(update(16, 7, 0))
			var want []api.Lsn
			for n := range saves {
				w.saved(7, n)
				want = append(want, 16)
			}
			w.noted(plain(k, 32, 7, 16))
			w.notSaved(7, api.ErrState) // of four savepoints too: ErrState comes first
			w.marks(7, want...)         // Mark and Drop don't ask for the state
			for n := saves - 1; n >= 0; n-- {
				w.same("Drop", w.drop(7, n), api.OK)
				w.marks(7, want[:n]...)
			}
			w.notSaved(7, api.ErrState)
			w.noted(plain(api.RecEnd, 48, 7, 32))
			w.notSaved(7, api.ErrNone)
			w.marks(7)
		}
	}
}

func TestSavepointsOfOneThatIsNotThere(t *testing.T) {
	w := newTwin(t).opened(7)
	w.saved(7, 0)
	for _, id := range ints() {
		w.notSaved(id, api.ErrNone)
		w.marks(id)
		for _, n := range ints() {
			w.same("Drop", w.drop(id, n), api.ErrNone)
		}
		w.isGone(id)
	}
	w.marks(7, 0)
	w.gone(7)
	w.notSaved(7, api.ErrNone)
	w.marks(7)
	w.same("Drop", w.drop(7, 0), api.ErrNone)
}

func TestDrop(t *testing.T) {
	for saves := range 5 {
		for n := -1; n <= 5; n++ {
			w := newTwin(t).opened(7)
			var want []api.Lsn
			last := api.Lsn(0)
			for i := range saves {
				w.noted(update(last+16, 7, last))
				last += 16
				w.saved(7, i)
				want = append(want, last)
			}
			e := w.drop(7, n)
			if n < 0 || n >= saves {
				w.same("Drop", e, api.ErrNone)
				w.marks(7, want...)
				continue
			}
			w.same("Drop", e, api.OK)
			w.marks(7, want[:n]...)
			w.same("Drop again", w.drop(7, n), api.ErrNone)
			w.is(7, api.TxnOpen, last, last, 54+46*saves)
			want = want[:n]
			for i := n; i < 4; i++ { // numbers go on from there, with what is taken back next now
				w.noted(update(last+16, 7, last))
				last += 16
				w.saved(7, i)
				want = append(want, last)
			}
			w.notSaved(7, api.ErrFull)
			w.marks(7, want...)
		}
	}
}

func TestNumbersOfSavepoints(t *testing.T) {
	w := newTwin(t).opened(7)
	for i := range 4 {
		w.saved(7, i)
	}
	for _, n := range []int{-1, -4, 4, 5, 256, 1 << 32, 1<<32 + 1, math.MaxInt, math.MinInt, math.MinInt + 1, -1 << 32} {
		l, e := w.mark(7, n)
		w.same("Mark", e, api.ErrNone)
		w.same("Mark", l, api.Lsn(0))
		w.same("Drop", w.drop(7, n), api.ErrNone)
		w.marks(7, 0, 0, 0, 0)
	}
	w.same("Drop", w.drop(7, 3), api.OK)
	w.marks(7, 0, 0, 0)
	w.same("Drop", w.drop(7, 0), api.OK)
	w.marks(7)
	w.same("Drop", w.drop(7, 0), api.ErrNone)
}

// Back to a savepoint, which stays, and those behind it go.
func TestBackToASavepoint(t *testing.T) {
	w := newTwin(t).opened(7)
	w.noted(update(16, 7, 0))
	w.saved(7, 0)
	w.noted(update(32, 7, 16))
	w.saved(7, 1)
	w.noted(update(48, 7, 32))
	to, _ := w.mark(7, 0)
	w.same("Drop", w.drop(7, 1), api.OK)
	w.noted(undo(64, 7, 48, 32), undo(80, 7, 64, 16))
	w.same("Next", w.table.Next(7), to)
	w.is(7, api.TxnOpen, 80, 16, 100)
	w.marks(7, 16)
	w.noted(update(96, 7, 80))
	w.saved(7, 1)
	w.marks(7, 16, 96)
}

// Row, Rows

func TestRowsRise(t *testing.T) {
	ids := []int{5, api.MaxTxn, 1, 1000, 256, 255, 2, 65536, 3, api.MaxTxn - 1}
	w := newTwin(t)
	for i, id := range ids {
		w.opened(id)
		if id != 3 && id != 1000 {
			w.noted(update(api.Lsn(16+i), id, 0))
		}
	}
	w.noted(plain(api.RecCommit, 100, 5, 16), plain(api.RecAbort, 101, 2, 22))
	want := []api.Txn{
		{ID: 1, Last: 18}, {ID: 2, State: api.TxnAborted, Last: 101}, {ID: 5, State: api.TxnCommitted, Last: 100},
		{ID: 255, Last: 21}, {ID: 256, Last: 20}, {ID: 65536, Last: 23}, {ID: api.MaxTxn - 1, Last: 25}, {ID: api.MaxTxn, Last: 17},
	}
	if l := w.table.Rows(); !slices.Equal(l, want) {
		t.Fatalf("Rows: %v, not %v", l, want)
	}
	w.noted(plain(api.RecEnd, 116, 5, 100), plain(api.RecSave, 117, 3, 0))
	w.gone(1)
	want = slices.Delete(want, 2, 3)
	want[0] = api.Txn{ID: 3, Last: 117}
	want[0], want[1] = want[1], want[0]
	if l := w.table.Rows(); !slices.Equal(l, want) {
		t.Fatalf("Rows: %v, not %v", l, want)
	}
}

func TestRowsAreNewMemory(t *testing.T) {
	w := newTwin(t).opened(2, 1, 3)
	w.noted(update(16, 1, 0), update(17, 2, 0))
	a, b := w.table.Rows(), w.table.Rows()
	want := slices.Clone(a)
	for i := range a {
		a[i] = api.Txn{ID: 99, State: 99, Last: 99}
	}
	_ = append(a[:0], api.Txn{ID: 98}, api.Txn{ID: 97})
	if !slices.Equal(b, want) {
		t.Errorf("another answer became %v", b)
	}
	w.look(99)
	w.noted(update(32, 1, 16), plain(api.RecSave, 33, 3, 0))
	if !slices.Equal(b, want) {
		t.Errorf("behind other calls the answer became %v", b)
	}
}

// Gone

func TestGone(t *testing.T) {
	for _, s := range states() {
		w, _ := inState(t, s)
		w.saved(8, 0)
		w.same("Gone", w.gone(7), true)
		w.isGone(7)
		w.same("Gone again", w.gone(7), false)
		w.is(8, api.TxnOpen, 0, 0, 0)
		w.same("Gone of one without a record", w.gone(8), true)
		w.isGone(8)
		w.same("Rows", len(w.table.Rows()), 0)
		for _, id := range ints() {
			w.same("Gone of one that isn't there", w.gone(id), false)
		}
	}
}

func TestGoneLeavesTheOthers(t *testing.T) {
	w := newTwin(t).opened(1, 2, 3)
	w.noted(update(16, 1, 0), update(17, 2, 0), update(18, 3, 0))
	w.saved(3, 0)
	w.gone(2)
	w.is(1, api.TxnOpen, 16, 16, 100)
	w.is(3, api.TxnOpen, 18, 18, 100)
	w.marks(3, 18)
	if l := w.table.Rows(); !slices.Equal(l, []api.Txn{{ID: 1, Last: 16}, {ID: 3, Last: 18}}) {
		t.Errorf("Rows: %v", l)
	}
}
