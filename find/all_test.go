package find_test

import (
	"testing"

	"flotilla/api"
	"flotilla/find"
)

// 18.1: what a log leaves

const (
	open      = api.TxnOpen
	committed = api.TxnCommitted
	aborted   = api.TxnAborted
)

func TestExample(t *testing.T) {
	l := []api.Record{update(16, 1, 0, 3), commit(32, 1, 16)}
	leaves(t, l, find.Left{Dirty: dirty(from(3, 16)), Redo: 16})
	leavesShort(t, l, find.Left{Dirty: dirty(from(3, 16)), Redo: 16})
}

// Each kind of record, as the only one.
func TestOneRecord(t *testing.T) {
	page := dirty(from(3, 17))
	for _, c := range []struct {
		r    api.Record
		want find.Left
	}{
		{update(17, 7, 0, 3), find.Left{Txns: txns(row(7, open, 17)), Next: nexts(17), Dirty: page, Redo: 17}},
		{undo(17, 7, 16, 0, 3), find.Left{Txns: txns(row(7, open, 17)), Next: nexts(0), Dirty: page, Redo: 17}},
		{undo(17, 7, 0, 5, 3), find.Left{Txns: txns(row(7, open, 17)), Next: nexts(5), Dirty: page, Redo: 17}},
		{undo(17, 7, 0, 16, 3), find.Left{Txns: txns(row(7, open, 17)), Next: nexts(16), Dirty: page, Redo: 17}},
		{commit(17, 7, 0), find.Left{}},
		{abort(17, 7, 0), find.Left{Txns: txns(row(7, aborted, 17)), Next: nexts(0)}},
		{end(17, 7, 0), find.Left{}},
		{save(17, 7, 0), find.Left{Txns: txns(row(7, open, 17)), Next: nexts(0)}},
		{save(17, 7, 16), find.Left{Txns: txns(row(7, open, 17)), Next: nexts(0)}},
		{opens(17), find.Left{}},
		{check(17, nil, nil), find.Left{}},
		{check(17, txns(row(7, open, 16)), page), find.Left{}},
	} {
		leaves(t, []api.Record{c.r}, c.want)
	}
}

// Each kind of record behind an update, and behind a RecUndo: the last record, and what is taken back next.
func TestSecondRecord(t *testing.T) {
	for _, c := range []struct {
		r     api.Record
		state api.TxnState
		goes  bool
		a, b  api.Lsn // what is taken back next, behind the update and behind the RecUndo
	}{
		{update(48, 7, 32, 3), open, true, 48, 48},
		{undo(48, 7, 32, 0, 3), open, true, 0, 0},
		{undo(48, 7, 32, 20, 3), open, true, 20, 20},
		{undo(48, 7, 32, 47, 3), open, true, 47, 47},
		{commit(48, 7, 32), open, false, 0, 0},
		{abort(48, 7, 32), aborted, true, 32, 9},
		{end(48, 7, 32), open, false, 0, 0},
		{save(48, 7, 32), open, true, 32, 9},
	} {
		want := find.Left{Dirty: dirty(from(3, 32)), Redo: 32}
		if c.goes {
			want.Txns, want.Next = txns(row(7, c.state, 48)), nexts(c.a)
		}
		leaves(t, []api.Record{update(32, 7, 0, 3), c.r}, want)
		if c.goes {
			want.Next = nexts(c.b)
		}
		leaves(t, []api.Record{undo(32, 7, 0, 9, 3), c.r}, want)
	}
	for _, r := range []api.Record{opens(48), check(48, nil, nil), save(48, 8, 0), commit(48, 8, 0)} {
		l := []api.Record{update(32, 7, 0, 3), r}
		look(t, l)
		left, _ := find.All(l)
		if left.Txns[0] != row(7, open, 32) || left.Next[0] != 32 {
			t.Errorf("behind another one's: %v", left)
		}
	}
}

// A transaction is aborted behind its RecAbort, whatever comes then, till it is over.
func TestStateBehindAbort(t *testing.T) {
	for _, k := range kinds() {
		for _, k2 := range kinds() {
			l := []api.Record{abort(16, 7, 0), record(k, 32, 7, 16), record(k2, 48, 7, 32)}
			look(t, l)
			left, _ := find.All(l)
			isOver := func(k api.Kind) bool { return k == api.RecCommit || k == api.RecEnd }
			switch {
			case isOver(k2):
				if len(left.Txns) != 0 {
					t.Errorf("%v: %v", l, left)
				}
			case isOver(k) && k2 != api.RecAbort:
				if left.Txns[0] != row(7, open, 48) {
					t.Errorf("%v: %v", l, left)
				}
			default:
				if left.Txns[0] != row(7, aborted, 48) {
					t.Errorf("%v: %v", l, left)
				}
			}
		}
	}
	l := []api.Record{update(16, 7, 0, 1), abort(32, 7, 16)}
	leaves(t, l, find.Left{Txns: txns(row(7, aborted, 32)), Next: nexts(16), Dirty: dirty(from(1, 16)), Redo: 16})
	l = append(l, undo(48, 7, 32, 0, 1))
	leaves(t, l, find.Left{Txns: txns(row(7, aborted, 48)), Next: nexts(0), Dirty: dirty(from(1, 16)), Redo: 16})
	l = append(l, end(64, 7, 48))
	leaves(t, l, find.Left{Dirty: dirty(from(1, 16)), Redo: 16})
}

// One that goes on behind its end, or its commit, begins anew: open, with nothing to be taken back, whatever it was.
func TestOneThatGoesOnAgain(t *testing.T) {
	for _, over := range []api.Kind{api.RecCommit, api.RecEnd} {
		l := []api.Record{update(16, 7, 0, 1), abort(32, 7, 16), record(over, 48, 7, 32)}
		page := dirty(from(1, 16))
		leaves(t, l, find.Left{Dirty: page, Redo: 16})
		leaves(t, append(l, save(64, 7, 48)), find.Left{Txns: txns(row(7, open, 64)), Next: nexts(0), Dirty: page, Redo: 16})
		leaves(t, append(l, abort(64, 7, 0)), find.Left{Txns: txns(row(7, aborted, 64)), Next: nexts(0), Dirty: page, Redo: 16})
		leaves(t, append(l, update(64, 7, 48, 1)), find.Left{Txns: txns(row(7, open, 64)), Next: nexts(64), Dirty: page, Redo: 16})
		leaves(t, append(l, undo(64, 7, 48, 16, 2)), find.Left{Txns: txns(row(7, open, 64)), Next: nexts(16), Dirty: dirty(from(1, 16), from(2, 64)), Redo: 16})
		leaves(t, append(l, commit(64, 7, 48)), find.Left{Dirty: page, Redo: 16})
		leaves(t, append(l, end(64, 7, 48)), find.Left{Dirty: page, Redo: 16})
		again := append(l, update(64, 7, 0, 1), record(over, 80, 7, 64), save(96, 7, 0), save(112, 7, 96))
		leaves(t, again, find.Left{Txns: txns(row(7, open, 112)), Next: nexts(0), Dirty: page, Redo: 16})
	}
}

// What is taken back next is what stands in the log ahead, whatever Prev says.
func TestAllAsksForNoPrev(t *testing.T) {
	for _, prev := range []api.Lsn{0, 1, 16, 32, 40, 47} {
		l := []api.Record{update(16, 7, 0, 1), update(32, 7, 16, 1), save(48, 7, prev)}
		leaves(t, l, find.Left{Txns: txns(row(7, open, 48)), Next: nexts(32), Dirty: dirty(from(1, 16)), Redo: 16})
		l[2] = abort(48, 7, prev)
		leaves(t, l, find.Left{Txns: txns(row(7, aborted, 48)), Next: nexts(32), Dirty: dirty(from(1, 16)), Redo: 16})
		l[2] = end(48, 7, prev)
		leaves(t, l, find.Left{Dirty: dirty(from(1, 16)), Redo: 16})
	}
}

// Several beside one another: by rising number, however they began, with Next beside each.
func TestSeveralTransactions(t *testing.T) {
	l := []api.Record{
		update(16, 9, 0, 4),
		update(32, 2, 0, 3),
		save(48, api.MaxTxn, 0),
		update(64, 5, 0, 4),
		update(80, 2, 32, 4),
		abort(96, 9, 16),
		commit(112, 5, 64),
		undo(128, 2, 80, 32, 4),
		save(144, 1, 0),
		end(160, 8, 0),
	}
	leaves(t, l, find.Left{
		Txns:  txns(row(1, open, 144), row(2, open, 128), row(9, aborted, 96), row(api.MaxTxn, open, 48)),
		Next:  nexts(0, 32, 16, 0),
		Dirty: dirty(from(3, 32), from(4, 16)),
		Redo:  16,
	})
	leaves(t, append(l, end(176, 2, 128)), find.Left{
		Txns:  txns(row(1, open, 144), row(9, aborted, 96), row(api.MaxTxn, open, 48)),
		Next:  nexts(0, 16, 0),
		Dirty: dirty(from(3, 32), from(4, 16)),
		Redo:  16,
	})
	leaves(t, append(l, commit(176, 9, 96), update(192, 3, 0, 0)), find.Left{
		Txns:  txns(row(1, open, 144), row(2, open, 128), row(3, open, 192), row(api.MaxTxn, open, 48)),
		Next:  nexts(0, 32, 192, 0),
		Dirty: dirty(from(0, 192), from(3, 32), from(4, 16)),
		Redo:  16,
	})
}

// Each order in which some begin tells them by rising number.
func TestOrderOfTransactions(t *testing.T) {
	ids := []int{1, 2, 10, 256, api.MaxTxn}
	for code := range 5 * 5 * 5 * 5 * 5 {
		var l []api.Record
		seen := map[int]bool{}
		for i := range 5 {
			id := ids[code%5]
			code /= 5
			seen[id] = true
			l = append(l, update(api.Lsn(16+16*i), id, 0, 15-i))
		}
		if len(seen) == 5 {
			look(t, l)
		}
	}
}

func TestPages(t *testing.T) {
	// the first RecUpdate or RecUndo that names it, whosever it is, and whether it is over or not
	l := []api.Record{
		save(16, 1, 0),
		update(32, 1, 16, 15),
		undo(48, 2, 0, 0, 0),
		update(64, 1, 32, 0),
		undo(80, 1, 64, 32, 15),
		end(96, 1, 80),
		commit(112, 2, 48),
		update(128, 3, 0, 15),
		update(144, 3, 128, 7),
		commit(160, 3, 144),
	}
	leaves(t, l, find.Left{Dirty: dirty(from(0, 48), from(7, 144), from(15, 32)), Redo: 32})
	// all of them, falling
	l = nil
	var all []api.Dirty
	for i := range 16 {
		l = append(l, update(api.Lsn(16+i), 1, 0, 15-i))
		all = append(all, from(i, api.Lsn(31-i)))
	}
	want := find.Left{Txns: txns(row(1, open, 31)), Next: nexts(31), Dirty: all, Redo: 16}
	leaves(t, l, want)
	for i := range 16 {
		l = append(l, undo(api.Lsn(32+i), 1, 0, 0, i))
	}
	want.Txns, want.Next = txns(row(1, open, 47)), nexts(0)
	leaves(t, l, want)
}

// Records without a change name no page, though their Page is 0.
func TestPagesOfNoChange(t *testing.T) {
	for _, k := range everyKind() {
		l := []api.Record{record(k, 16, 7, 0), update(32, 8, 0, 0)}
		look(t, l)
		left, _ := find.All(l)
		switch k {
		case api.RecUpdate, api.RecUndo:
			if len(left.Dirty) != 2 || left.Dirty[1] != from(3, 16) || left.Redo != 16 {
				t.Errorf("%v: %v", l, left)
			}
		default:
			if len(left.Dirty) != 1 || left.Dirty[0] != from(0, 32) || left.Redo != 32 {
				t.Errorf("%v: %v", l, left)
			}
		}
	}
}

// The least is not that of the first page, nor of the last one.
func TestRedo(t *testing.T) {
	for at := range 5 {
		var l []api.Record
		for i := range 5 {
			l = append(l, update(api.Lsn(1<<59+16*i), 1, 0, (at+i)%5))
		}
		look(t, l)
		if left, _ := find.All(l); left.Redo != 1<<59 || left.Dirty[at].Rec != 1<<59 {
			t.Errorf("at %d: %v", at, left)
		}
	}
	l := []api.Record{save(16, 1, 0), abort(32, 1, 16), opens(48), check(64, nil, dirty(from(1, 16)))}
	leaves(t, l, find.Left{Txns: txns(row(1, aborted, 32)), Next: nexts(0)})
	leaves(t, append(l, update(1<<60+15, 1, 32, 0)), find.Left{Txns: txns(row(1, aborted, 1<<60+15)), Next: nexts(1<<60 + 15), Dirty: dirty(from(0, 1<<60+15)), Redo: 1<<60 + 15})
}

// Checkpoints make no difference to All, wherever they stand, and whatever their rows say.
func TestAllWithoutRegardToCheckpoints(t *testing.T) {
	l := []api.Record{update(16, 1, 0, 3), save(32, 2, 0), abort(48, 2, 32), update(64, 1, 16, 5), commit(80, 3, 0), undo(96, 1, 64, 16, 5)}
	want := find.Left{Txns: txns(row(1, open, 96), row(2, aborted, 48)), Next: nexts(16, 0), Dirty: dirty(from(3, 16), from(5, 64)), Redo: 16}
	leaves(t, l, want)
	for _, lists := range [][]api.Txn{nil, rows(64), txns(row(1, aborted, 16), row(2, committed, 17)), txns(row(1, committed, 1<<60))} {
		for _, pages := range [][]api.Dirty{nil, dirty(from(0, 16), from(3, 17), from(5, 1<<60))} {
			for at := range len(l) + 1 {
				var c []api.Record
				c = append(c, l[:at]...)
				c = append(c, opens(api.Lsn(16*at+5)), check(api.Lsn(16*at+6), lists, pages), check(api.Lsn(16*at+7), nil, nil))
				c = append(c, l[at:]...)
				if at == 0 {
					for i := range c {
						c[i].Lsn += 16
					}
					look(t, c)
					continue
				}
				leaves(t, c, want)
			}
		}
	}
}

// Transactions at their limits: as many at a time as there are, each with its own.
func TestManyAtATime(t *testing.T) {
	var l []api.Record
	var want find.Left
	for i := range 3000 {
		id := 1 + (i*7)%3000
		l = append(l, update(api.Lsn(16+i), id, 0, 3))
	}
	for id := 1; id <= 3000; id++ {
		for _, r := range l {
			if r.Txn == id {
				want.Txns, want.Next = append(want.Txns, row(id, open, r.Lsn)), append(want.Next, r.Lsn)
			}
		}
	}
	want.Dirty, want.Redo = dirty(from(3, 16)), 16
	got, e := find.All(l)
	if e != api.OK || !same(got, want) {
		t.Error("many at a time:", e, len(got.Txns))
	}
}
