package find_test

import (
	"slices"
	"testing"

	"flotilla/api"
	"flotilla/find"
)

// 18.1: what a log leaves, begun at its last checkpoint

func TestShortWithoutACheckpoint(t *testing.T) {
	l := []api.Record{update(16, 1, 0, 3), opens(32), save(48, 2, 0), undo(64, 3, 0, 5, 1), commit(80, 1, 16)}
	leavesShort(t, l, find.Left{Txns: txns(row(2, open, 48), row(3, open, 64)), Next: nexts(0, 5), Dirty: dirty(from(1, 64), from(3, 16)), Redo: 16})
	for n := range l {
		all, _ := find.All(l[:n])
		leavesShort(t, l[:n], all)
	}
}

// One at the beginning, without rows: all stands behind it.
func TestShortAtTheBeginning(t *testing.T) {
	l := []api.Record{check(16, nil, nil), update(32, 1, 0, 3), save(48, 2, 0), abort(64, 2, 48)}
	all, _ := find.All(l)
	leavesShort(t, l, all)
	leavesShort(t, l[:1], find.Left{})
	// with rows: they stand for something ahead, of which the log has nothing
	l[0] = check(16, txns(row(1, aborted, 16), row(7, open, 20)), dirty(from(2, 99), from(3, 50)))
	leavesShort(t, l[:1], find.Left{Txns: txns(row(1, aborted, 16), row(7, open, 20)), Next: nexts(0, 0), Dirty: dirty(from(2, 99), from(3, 50)), Redo: 50})
	leavesShort(t, l, find.Left{
		Txns:  txns(row(1, aborted, 32), row(2, aborted, 64), row(7, open, 20)),
		Next:  nexts(32, 0, 0),
		Dirty: dirty(from(2, 99), from(3, 50)),
		Redo:  50,
	})
}

// One without rows forgets all that stands ahead of it.
func TestShortForgetsWhatIsAhead(t *testing.T) {
	ahead := []api.Record{update(16, 1, 0, 3), save(32, 2, 0), abort(48, 2, 32), undo(64, 1, 16, 0, 5)}
	l := append(ahead, check(80, nil, nil))
	leavesShort(t, l, find.Left{})
	leavesShort(t, append(l, opens(96)), find.Left{})
	leavesShort(t, append(l, save(96, 1, 64)), find.Left{Txns: txns(row(1, open, 96)), Next: nexts(0)})
	leavesShort(t, append(l, save(96, 2, 48)), find.Left{Txns: txns(row(2, open, 96)), Next: nexts(0)})
	leavesShort(t, append(l, commit(96, 1, 64), end(112, 2, 48)), find.Left{})
	leavesShort(t, append(l, update(96, 1, 64, 3)), find.Left{Txns: txns(row(1, open, 96)), Next: nexts(96), Dirty: dirty(from(3, 96)), Redo: 96})
}

// The last one counts, with its rows alone.
func TestShortWithSeveral(t *testing.T) {
	l := []api.Record{
		check(16, txns(row(1, open, 16)), dirty(from(1, 16))),
		update(32, 2, 0, 2),
		check(48, txns(row(2, aborted, 32), row(3, open, 40)), dirty(from(4, 44))),
		save(64, 4, 0),
	}
	leavesShort(t, l[:1], find.Left{Txns: txns(row(1, open, 16)), Next: nexts(0), Dirty: dirty(from(1, 16)), Redo: 16})
	leavesShort(t, l[:2], find.Left{Txns: txns(row(1, open, 16), row(2, open, 32)), Next: nexts(0, 32), Dirty: dirty(from(1, 16), from(2, 32)), Redo: 16})
	leavesShort(t, l[:3], find.Left{Txns: txns(row(2, aborted, 32), row(3, open, 40)), Next: nexts(32, 0), Dirty: dirty(from(4, 44)), Redo: 44})
	leavesShort(t, l, find.Left{Txns: txns(row(2, aborted, 32), row(3, open, 40), row(4, open, 64)), Next: nexts(32, 0, 0), Dirty: dirty(from(4, 44)), Redo: 44})
	leavesShort(t, append(l, check(80, nil, nil)), find.Left{})
	leavesShort(t, append(l, check(80, nil, nil), check(96, nil, dirty(from(0, 16)))), find.Left{Dirty: dirty(from(0, 16)), Redo: 16})
	leavesShort(t, append(l, opens(80)), find.Left{Txns: txns(row(2, aborted, 32), row(3, open, 40), row(4, open, 64)), Next: nexts(32, 0, 0), Dirty: dirty(from(4, 44)), Redo: 44})
}

// A row's state: open and aborted ones go on with it, committed ones don't.
func TestStatesOfRows(t *testing.T) {
	l := []api.Record{update(16, 1, 0, 3), update(32, 2, 0, 3), update(48, 3, 0, 3)}
	l = append(l, check(64, txns(row(1, open, 16), row(2, committed, 32), row(3, aborted, 48)), nil))
	leavesShort(t, l, find.Left{Txns: txns(row(1, open, 16), row(3, aborted, 48)), Next: nexts(16, 48)})
	// behind it each goes on as it was, or anew
	for _, k := range []api.Kind{api.RecSave, api.RecAbort} {
		state := open
		if k == api.RecAbort {
			state = aborted
		}
		leavesShort(t, append(l, record(k, 80, 1, 16)), find.Left{Txns: txns(row(1, state, 80), row(3, aborted, 48)), Next: nexts(16, 48)})
		leavesShort(t, append(l, record(k, 80, 2, 32)), find.Left{Txns: txns(row(1, open, 16), row(2, state, 80), row(3, aborted, 48)), Next: nexts(16, 0, 48)})
		leavesShort(t, append(l, record(k, 80, 3, 48)), find.Left{Txns: txns(row(1, open, 16), row(3, aborted, 80)), Next: nexts(16, 48)})
	}
	for _, k := range []api.Kind{api.RecCommit, api.RecEnd} {
		leavesShort(t, append(l, record(k, 80, 1, 16)), find.Left{Txns: txns(row(3, aborted, 48)), Next: nexts(48)})
		leavesShort(t, append(l, record(k, 80, 2, 32)), find.Left{Txns: txns(row(1, open, 16), row(3, aborted, 48)), Next: nexts(16, 48)})
		leavesShort(t, append(l, record(k, 80, 3, 48)), find.Left{Txns: txns(row(1, open, 16)), Next: nexts(16)})
		// and once more behind its end
		leavesShort(t, append(l, record(k, 80, 3, 48), save(96, 3, 80)), find.Left{Txns: txns(row(1, open, 16), row(3, open, 96)), Next: nexts(16, 0)})
	}
	page := dirty(from(3, 80))
	leavesShort(t, append(l, update(80, 3, 48, 3)), find.Left{Txns: txns(row(1, open, 16), row(3, aborted, 80)), Next: nexts(16, 80), Dirty: page, Redo: 80})
	leavesShort(t, append(l, undo(80, 3, 48, 0, 3)), find.Left{Txns: txns(row(1, open, 16), row(3, aborted, 80)), Next: nexts(16, 0), Dirty: page, Redo: 80})
	leavesShort(t, append(l, undo(80, 2, 32, 5, 3)), find.Left{Txns: txns(row(1, open, 16), row(2, open, 80), row(3, aborted, 48)), Next: nexts(16, 5, 48), Dirty: page, Redo: 80})
}

// nextOfRow asks what a transaction of a row with that last record takes back next, and behind records that don't tell it.
func nextOfRow(t *testing.T, ahead []api.Record, last, want api.Lsn) {
	t.Helper()
	for _, state := range []api.TxnState{open, aborted} {
		l := append(slices.Clone(ahead), check(160, txns(row(7, state, last)), nil))
		leavesShort(t, l, find.Left{Txns: txns(row(7, state, last)), Next: nexts(want)})
		leavesShort(t, append(l, save(176, 7, last)), find.Left{Txns: txns(row(7, state, 176)), Next: nexts(want)})
		leavesShort(t, append(l, abort(176, 7, 0)), find.Left{Txns: txns(row(7, aborted, 176)), Next: nexts(want)})
		if got := find.Next(ahead, last); got != want {
			t.Errorf("Next(%v, %d): %d", ahead, last, got)
		}
	}
}

// What is taken back next is looked for among the records ahead, by a row's last record and its Prev.
func TestNextOfRows(t *testing.T) {
	ahead := []api.Record{
		update(16, 7, 0, 3),
		undo(32, 7, 16, 5, 3),
		save(48, 7, 16),
		abort(64, 7, 48),
		save(80, 7, 32),
		save(96, 7, 20),
		save(112, 7, 0),
		commit(128, 7, 80),
		opens(144),
	}
	nextOfRow(t, ahead, 16, 16)
	nextOfRow(t, ahead, 32, 5)
	nextOfRow(t, ahead, 48, 16)
	nextOfRow(t, ahead, 64, 16)
	nextOfRow(t, ahead, 80, 5)
	nextOfRow(t, ahead, 96, 0)
	nextOfRow(t, ahead, 112, 0)
	nextOfRow(t, ahead, 128, 5)
	nextOfRow(t, ahead, 144, 0)
	for _, last := range []api.Lsn{17, 31, 33, 145, 159} {
		nextOfRow(t, ahead, last, 0)
	}
	nextOfRow(t, nil, 16, 0)
	nextOfRow(t, []api.Record{end(16, 7, 0)}, 16, 0)
}

// A row's last record that stands behind the checkpoint, or is the checkpoint, isn't ahead of it.
func TestLastRecordThatIsNotAhead(t *testing.T) {
	l := []api.Record{update(16, 7, 0, 3), check(32, txns(row(1, open, 32), row(7, open, 48), row(8, aborted, 1<<60+15)), nil), update(48, 9, 0, 3)}
	leavesShort(t, l, find.Left{
		Txns:  txns(row(1, open, 32), row(7, open, 48), row(8, aborted, 1<<60+15), row(9, open, 48)),
		Next:  nexts(0, 0, 0, 48),
		Dirty: dirty(from(3, 48)),
		Redo:  48,
	})
	// one that is its own, behind
	l = []api.Record{check(32, txns(row(7, open, 48)), nil), update(48, 7, 0, 3), save(64, 7, 48)}
	leavesShort(t, l, find.Left{Txns: txns(row(7, open, 64)), Next: nexts(48), Dirty: dirty(from(3, 48)), Redo: 48})
	leavesShort(t, l[:1], find.Left{Txns: txns(row(7, open, 48)), Next: nexts(0)})
}

// A way back that leads over another checkpoint's record ends there, as that has no Prev; and ahead of it records count as well.
func TestRowsOverSeveralCheckpoints(t *testing.T) {
	ahead := []api.Record{update(16, 7, 0, 3), check(32, txns(row(7, open, 16)), nil), save(48, 7, 16), check(64, nil, nil), save(80, 7, 48), save(96, 7, 64)}
	nextOfRow(t, ahead, 80, 16)
	nextOfRow(t, ahead, 96, 0)
	nextOfRow(t, ahead, 64, 0)
}

// Rows are believed, though the log ahead says otherwise: Prev alone leads back, whosever the record is.
func TestRowsThatAreNotWhatIsAhead(t *testing.T) {
	l := []api.Record{update(16, 1, 0, 3), commit(32, 1, 16), update(48, 2, 0, 4), check(64, txns(row(1, open, 16), row(5, aborted, 48)), dirty(from(9, 48)))}
	leavesShort(t, l, find.Left{Txns: txns(row(1, open, 16), row(5, aborted, 48)), Next: nexts(16, 48), Dirty: dirty(from(9, 48)), Redo: 48})
	l[3] = check(64, txns(row(1, open, 32), row(2, committed, 48)), nil)
	leavesShort(t, l, find.Left{Txns: txns(row(1, open, 32)), Next: nexts(16)})
	// the record ahead doesn't lead to the update: All has it, Short has nothing
	l = []api.Record{update(16, 1, 0, 3), save(32, 1, 0), check(48, txns(row(1, open, 32)), nil)}
	leavesShort(t, l, find.Left{Txns: txns(row(1, open, 32)), Next: nexts(0)})
	leaves(t, l, find.Left{Txns: txns(row(1, open, 32)), Next: nexts(16), Dirty: dirty(from(3, 16)), Redo: 16})
}

// A page of the rows is dirty from its Rec, whatever names it ahead of the checkpoint or behind it.
func TestPagesOfRows(t *testing.T) {
	for _, l0 := range []api.Lsn{16, 20, 64, 70, 100, 1<<60 + 15} {
		l := []api.Record{update(32, 1, 0, 3), update(48, 1, 32, 4), check(64, nil, dirty(from(3, l0))), update(80, 1, 48, 3), commit(96, 1, 80)}
		leavesShort(t, l, find.Left{Dirty: dirty(from(3, l0)), Redo: l0})
		l = append(l, undo(112, 2, 0, 0, 4), update(128, 2, 112, 3), update(144, 2, 128, 4), end(160, 2, 144))
		leavesShort(t, l, find.Left{Dirty: dirty(from(3, l0), from(4, 112)), Redo: min(112, l0)})
	}
	var all []api.Dirty
	for i := range 16 {
		all = append(all, from(i, api.Lsn(100-i)))
	}
	l := []api.Record{check(16, nil, all)}
	leavesShort(t, l, find.Left{Dirty: all, Redo: 85})
	for i := range 16 {
		l = append(l, update(api.Lsn(32+i), 1, 0, i), commit(api.Lsn(64+i), 1, 0))
	}
	slices.SortFunc(l, func(a, b api.Record) int { return int(a.Lsn) - int(b.Lsn) })
	leavesShort(t, l, find.Left{Dirty: all, Redo: 85})
}

// As many rows as there may be: by rising number among others that come behind.
func TestManyRows(t *testing.T) {
	var l []api.Record
	var list []api.Txn
	for i := range 64 {
		l = append(l, update(api.Lsn(16+i), 2+2*i, 0, i%16))
		list = append(list, row(2+2*i, api.TxnState(i%3), api.Lsn(16+i)))
	}
	l = append(l, check(100, list, nil))
	look(t, l)
	if left, _ := find.Short(l); len(left.Txns) != 43 { // 21 are committed
		t.Errorf("%d go on", len(left.Txns))
	}
	for i := range 40 {
		l = append(l, save(api.Lsn(101+i), 1+5*i, 0))
		look(t, l)
	}
	if left, _ := find.Short(l); len(left.Txns) != 43+20+4+7 { // odd numbers, such as were committed, and such as are above all rows
		t.Errorf("%d go on", len(left.Txns))
	}
}
