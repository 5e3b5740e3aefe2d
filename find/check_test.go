package find_test

import (
	"math"
	"slices"
	"testing"

	"flotilla/api"
	"flotilla/find"
)

// 18.1: which records are a log, and what is told of such as are none

// is asks that records are a log.
func is(t *testing.T, l []api.Record) {
	t.Helper()
	if e := find.Check(l); e != api.OK {
		t.Fatalf("Check(%v): %d", l, e)
	}
	look(t, l)
}

func TestEmptyLog(t *testing.T) {
	for _, l := range [][]api.Record{nil, {}, make([]api.Record, 0, 4)} {
		is(t, l)
		leaves(t, l, find.Left{})
		leavesShort(t, l, find.Left{})
		for _, at := range []api.Lsn{0, 1, 16, math.MaxUint64} {
			if n := find.Next(l, at); n != 0 {
				t.Errorf("Next of none at %d: %d", at, n)
			}
		}
	}
}

func TestLogOfOne(t *testing.T) {
	for _, k := range everyKind() {
		for _, l := range []api.Lsn{16, 17, 31, 32, 1 << 56, 1 << 60, 1<<60 + 15} {
			is(t, []api.Record{record(k, l, 7, 0)})
			is(t, []api.Record{record(k, l, 1, l-1)})
			is(t, []api.Record{record(k, l, api.MaxTxn, 1)})
		}
	}
}

// wrong is records that may not be, each such in one thing alone; their LSN, where it isn't that, is l.
func wrong(l api.Lsn) []api.Record {
	var all []api.Record
	add := func(r api.Record, change func(r *api.Record)) {
		change(&r)
		all = append(all, r)
	}
	for _, k := range everyKind() {
		r := record(k, l, 7, 0)
		for _, n := range []api.Kind{api.RecNone, api.RecCount, -1, k + 256, math.MaxInt, math.MinInt} {
			add(r, func(r *api.Record) { r.Kind = n })
		}
		for _, n := range []int{-1, api.MaxTxn + 1, math.MaxInt, math.MinInt, 1 << 32} {
			add(r, func(r *api.Record) { r.Txn = n })
		}
		for _, n := range []api.Lsn{l, l + 1, math.MaxUint64} {
			add(r, func(r *api.Record) { r.Prev = n })
			add(r, func(r *api.Record) { r.Undo = n })
		}
		add(r, func(r *api.Record) { r.Page = 16 })
		add(r, func(r *api.Record) { r.Page = -1 })
		add(r, func(r *api.Record) { r.Act = api.Act{Kind: api.ActInsert, Key: text(17)} })
		add(r, func(r *api.Record) { r.Act = api.Act{Kind: api.ActInsert} })
		add(r, func(r *api.Record) { r.Act = api.Act{Kind: api.ActInsert, Key: "a", Old: "x"} })
		add(r, func(r *api.Record) { r.Act = api.Act{Kind: api.ActCount, Key: "a"} })
		add(r, func(r *api.Record) { r.Txns = txns(row(1, api.TxnStates, 16)) })
		add(r, func(r *api.Record) { r.Txns = txns(row(1, 0, 15)) })
		add(r, func(r *api.Record) { r.Txns = txns(row(0, 0, 16)) })
		add(r, func(r *api.Record) { r.Txns = txns(row(2, 0, 16), row(1, 0, 16)) })
		add(r, func(r *api.Record) { r.Txns = txns(row(2, 0, 16), row(2, 0, 16)) })
		add(r, func(r *api.Record) { r.Txns = rows(65) })
		add(r, func(r *api.Record) { r.Dirty = dirty(from(16, 16)) })
		add(r, func(r *api.Record) { r.Dirty = dirty(from(1, 15)) })
		add(r, func(r *api.Record) { r.Dirty = dirty(from(1, 16), from(1, 17)) })
	}
	for _, k := range kinds() {
		add(record(k, l, 7, 0), func(r *api.Record) { r.Txn = 0 })
	}
	add(opens(l), func(r *api.Record) { r.Txn = 1 })
	add(opens(l), func(r *api.Record) { r.Prev = 16 })
	add(check(l, nil, nil), func(r *api.Record) { r.Txn = 1 })
	add(check(l, nil, nil), func(r *api.Record) { r.Prev = 16 })
	add(save(l, 7, 0), func(r *api.Record) { r.Undo = 16 })
	return all
}

// rows is so many of a checkpoint's.
func rows(n int) []api.Txn {
	var l []api.Txn
	for i := range n {
		l = append(l, row(i+1, 0, 16))
	}
	return l
}

// Each stands first, amid others, last and alone.
func TestRecordsThatMayNotBe(t *testing.T) {
	rest := []api.Record{update(200, 7, 0, 3), check(216, rows(2), dirty(from(3, 200))), save(232, 7, 200), opens(248)}
	for place := range len(rest) + 1 {
		l := api.Lsn(190 + 16*place)
		is(t, slices.Insert(slices.Clone(rest), place, save(l, 7, 0)))
		for _, r := range wrong(l) {
			refused(t, []api.Record{r})
			refused(t, slices.Insert(slices.Clone(rest), place, r))
		}
	}
}

// LSNs that may not be stand where they rise all the same.
func TestLsnsThatMayNotBe(t *testing.T) {
	for _, k := range everyKind() {
		for _, l := range []api.Lsn{0, 1, 14, 15} {
			refused(t, []api.Record{record(k, l, 7, 0)})
			refused(t, []api.Record{record(k, l, 7, 0), save(16, 7, 0)})
		}
		for _, l := range []api.Lsn{1<<60 + 16, 1<<60 + 17, 1 << 63, math.MaxUint64} {
			refused(t, []api.Record{record(k, l, 7, 0)})
			refused(t, []api.Record{save(16, 7, 0), record(k, l, 7, 0)})
		}
	}
	is(t, []api.Record{save(16, 7, 0), save(1<<60+15, 7, 16)})
}

func TestLsnsThatDoNotRise(t *testing.T) {
	for _, a := range everyKind() {
		for _, b := range everyKind() {
			is(t, []api.Record{record(a, 16, 1, 0), record(b, 17, 2, 0)})
			is(t, []api.Record{record(a, 16, 1, 0), record(b, 1<<60+15, 2, 0)})
			refused(t, []api.Record{record(a, 16, 1, 0), record(b, 16, 1, 0)})
			refused(t, []api.Record{record(a, 17, 1, 0), record(b, 16, 2, 0)})
			refused(t, []api.Record{record(a, 1<<60+15, 1, 0), record(b, 16, 2, 0)})
		}
	}
	// each place among several: it stays there, or falls
	for n := 2; n < 8; n++ {
		for at := 1; at < n; at++ {
			var l []api.Record
			for i := range n {
				l = append(l, record(everyKind()[(i+at)%8], api.Lsn(32+16*i), 1, 0))
			}
			is(t, l)
			for _, less := range []api.Lsn{16, 17, 30} {
				c := slices.Clone(l)
				c[at].Lsn -= less
				refused(t, c)
			}
			c := slices.Clone(l)
			c[at-1].Lsn += 16
			refused(t, c)
		}
	}
}

// The checkpoint that Short would begin at doesn't matter: what stands ahead of it must be a log too.
func TestNoLogAheadOfACheckpoint(t *testing.T) {
	behind := []api.Record{check(160, nil, nil), save(176, 1, 0)}
	for _, r := range wrong(144) {
		refused(t, append([]api.Record{r}, behind...))
	}
	refused(t, append([]api.Record{save(32, 1, 0), save(32, 1, 0)}, behind...))
	refused(t, append([]api.Record{save(160, 1, 0)}, behind...))
	refused(t, append(behind, save(170, 1, 0)))
}

// What the document says of rows' LSNs is layer 5's alone: they may be above that of their checkpoint.
func TestRowsWhoseLsnsAreAnywhere(t *testing.T) {
	for _, l := range []api.Lsn{16, 31, 32, 33, 1<<60 + 15} {
		is(t, []api.Record{check(32, txns(row(1, 0, l)), dirty(from(0, l)))})
	}
	is(t, []api.Record{check(32, rows(64), nil)})
}
