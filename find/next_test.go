package find_test

import (
	"math"
	"math/rand"
	"testing"

	"flotilla/api"
	"flotilla/find"
)

// 18.2: what a record tells to be taken back

// tells asks for what Next tells.
func tells(t *testing.T, l []api.Record, at, want api.Lsn) {
	t.Helper()
	if got := find.Next(l, at); got != want {
		t.Fatalf("Next(%v, %d): %d, not %d", l, at, got, want)
	}
	look(t, l)
}

func TestNextOfEachKind(t *testing.T) {
	for _, prev := range []api.Lsn{0, 16, 32, 48} {
		ahead := []api.Record{update(16, 7, 0, 3), undo(32, 7, 16, 9, 3), save(48, 7, 0)}
		by := map[api.Lsn]api.Lsn{0: 0, 16: 16, 32: 9, 48: 0}[prev]
		tells(t, append(ahead, update(64, 7, prev, 3)), 64, 64)
		tells(t, append(ahead, undo(64, 7, prev, 0, 3)), 64, 0)
		tells(t, append(ahead, undo(64, 7, prev, 5, 3)), 64, 5)
		tells(t, append(ahead, undo(64, 7, prev, 63, 3)), 64, 63)
		tells(t, append(ahead, undo(64, 7, prev, 16, 3)), 64, 16)
		tells(t, append(ahead, commit(64, 7, prev)), 64, by)
		tells(t, append(ahead, abort(64, 7, prev)), 64, by)
		tells(t, append(ahead, end(64, 7, prev)), 64, by)
		tells(t, append(ahead, save(64, 7, prev)), 64, by)
		tells(t, append(ahead, opens(64)), 64, 0)
		tells(t, append(ahead, check(64, txns(row(7, open, 16)), dirty(from(3, 16)))), 64, 0)
	}
}

// An Undo is told as it is: it need be no record's LSN, and of one that is there it isn't asked what that one tells.
func TestNextOfUndo(t *testing.T) {
	l := []api.Record{update(16, 7, 0, 3), undo(32, 7, 16, 0, 3), undo(48, 7, 32, 32, 3), save(64, 7, 48), undo(80, 7, 64, 64, 3), undo(96, 7, 80, 95, 3), save(112, 7, 96)}
	tells(t, l, 32, 0)
	tells(t, l, 48, 32)
	tells(t, l, 64, 32)
	tells(t, l, 80, 64)
	tells(t, l, 96, 95)
	tells(t, l, 112, 95)
}

// A Prev leads over several records, which tell nothing themselves.
func TestNextOverSeveral(t *testing.T) {
	l := []api.Record{update(16, 7, 0, 3)}
	for i, k := range []api.Kind{api.RecSave, api.RecAbort, api.RecCommit, api.RecEnd, api.RecSave, api.RecSave} {
		l = append(l, record(k, api.Lsn(32+16*i), 7, api.Lsn(16+16*i)))
		tells(t, l, api.Lsn(32+16*i), 16)
	}
	l[0] = undo(16, 7, 0, 4, 3)
	tells(t, l, 112, 4)
	l[3] = undo(64, 7, 48, 11, 3)
	tells(t, l, 112, 11)
	tells(t, l, 48, 4)
	l[4] = update(80, 7, 0, 3)
	tells(t, l, 112, 80)
	tells(t, l, 80, 80)
	tells(t, l, 64, 11)
}

// A Prev may pass over records of its transaction, and lead to another one's: nobody asks whose it is.
func TestNextAsksForPrevAlone(t *testing.T) {
	l := []api.Record{update(16, 7, 0, 3), update(32, 7, 16, 3), save(48, 7, 16), update(64, 8, 0, 3), save(80, 7, 64)}
	tells(t, l, 48, 16)
	tells(t, l, 80, 64)
}

// A Prev that isn't there, of the one itself and on the way: nothing.
func TestNextWhosePrevIsNotThere(t *testing.T) {
	l := []api.Record{save(16, 7, 15), save(32, 7, 17), save(48, 7, 32), save(64, 7, 63), update(80, 7, 79, 3), abort(96, 7, 80), undo(112, 7, 97, 2, 3)}
	for _, at := range []api.Lsn{16, 32, 48, 64} {
		tells(t, l, at, 0)
	}
	tells(t, l, 80, 80)
	tells(t, l, 96, 80)
	tells(t, l, 112, 2)
}

// An LSN that no record has.
func TestNextOfNone(t *testing.T) {
	l := []api.Record{update(16, 7, 0, 3), update(32, 7, 16, 3), update(64, 7, 32, 3), update(80, 7, 64, 3)}
	for _, at := range []api.Lsn{0, 1, 15, 17, 31, 33, 48, 63, 65, 79, 81, 1 << 60, 1 << 63, math.MaxUint64} {
		tells(t, l, at, 0)
		tells(t, l[:1], at, 0)
		tells(t, nil, at, 0)
	}
	for _, at := range []api.Lsn{16, 32, 64, 80} {
		tells(t, l, at, at)
	}
}

func TestNextAtTheEdges(t *testing.T) {
	const most = 1<<60 + 15
	tells(t, []api.Record{update(16, 1, 15, 0), save(most, 1, 16)}, most, 16)
	tells(t, []api.Record{undo(16, 1, 0, 15, 0), save(most, api.MaxTxn, 16)}, most, 15)
	tells(t, []api.Record{update(most, api.MaxTxn, most-1, 15)}, most, most)
	tells(t, []api.Record{undo(most, api.MaxTxn, most-1, most-1, 15)}, most, most-1)
}

// Of what is no log nothing is told, wherever the fault is: ahead of the record, on its way back, behind it, or it itself.
func TestNextOfNoLog(t *testing.T) {
	good := []api.Record{update(64, 7, 0, 3), save(80, 7, 64), save(96, 7, 80)}
	tells(t, good, 96, 64)
	for _, l := range [][]api.Record{
		append([]api.Record{save(64, 7, 0)}, good...),
		append([]api.Record{save(15, 7, 0)}, good...),
		append(good, save(96, 7, 80)),
		append(good, save(112, 0, 80)),
		append(good, api.Record{Lsn: 112}),
		{good[0], save(80, 7, 80), good[2]},
		{good[0], save(80, 7, 96), good[2]},
		{good[0], good[1], save(96, 7, 96)},
		{save(64, 7, 80), save(80, 7, 64), save(96, 7, 80)},
	} {
		refused(t, l)
		for _, at := range []api.Lsn{0, 15, 64, 80, 96, 112} {
			tells(t, l, at, 0)
		}
	}
}

// Each LSN of drawn logs, and those beside it.
func TestNextOfDrawnLogs(t *testing.T) {
	r := rand.New(rand.NewSource(182))
	seen := map[string]int{}
	for range 2000 {
		l := drawn(r, 12, 3)
		for at := range api.Lsn(200) {
			lookNext(t, l, at)
			if find.Next(l, at) > 0 {
				seen["told"]++
			}
		}
	}
	if seen["told"] < 2000 {
		t.Error("too few tell anything:", seen)
	}
}

// A way back over very many records comes to its end soon.
func TestLongWayBack(t *testing.T) {
	ends(t, "a long way back", func() {
		const many = 200000
		l := []api.Record{update(16, 7, 0, 3)}
		for i := range many {
			l = append(l, save(api.Lsn(17+i), 7, api.Lsn(16+i)))
		}
		if n := find.Next(l, many+16); n != 16 {
			t.Error("Next:", n)
		}
		var list []api.Txn
		for i := range 64 {
			list = append(list, row(i+1, aborted, many+16))
		}
		l = append(l, check(many+17, list, nil))
		left, e := find.Short(l)
		if e != api.OK || len(left.Next) != 64 || left.Next[0] != 16 || left.Next[63] != 16 {
			t.Error("Short:", left, e)
		}
		l[0] = save(16, 7, 0)
		if n := find.Next(l, many+16); n != 0 {
			t.Error("Next:", n)
		}
	})
}
