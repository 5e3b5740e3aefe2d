package mend_test

import (
	"slices"
	"testing"

	"flotilla/api"
	"flotilla/lsn"
	"flotilla/mend"
)

// 19.2: Back

func TestExample(t *testing.T) {
	l := []api.Record{update(16, 1, 0, 0, insert("a", ""))}
	tellsBack(t, l, 0, abort(32, 1, 16), undo(48, 1, 32, 0, 0, remove("a", "")), end(64, 1, 48))
	tellsBack(t, l, 7, abort(39, 1, 16), undo(55, 1, 39, 0, 0, remove("a", "")), end(71, 1, 55))
}

func TestBackOfNoClock(t *testing.T) {
	for _, l := range [][]api.Record{
		nil,
		{},
		{commit(16, 1, 0)},
		{update(16, 1, 0, 0, insert("a", ""))},
		{commit(16, 0, 0)},
		{commit(16, 1, 0), commit(16, 2, 0)},
	} {
		if b, e := mend.Back(l, nil); e != api.ErrArg || len(b) != 0 {
			t.Errorf("Back(%v) without a clock: %v, %d", l, b, e)
		}
	}
}

// What is no log is refused, and the clock stays where it was.
func TestBackOfWhatIsNoLog(t *testing.T) {
	a := update(32, 1, 0, 3, insert("a", "x"))
	worse := func(change func(r *api.Record)) []api.Record {
		r := a
		change(&r)
		return []api.Record{r}
	}
	for _, l := range [][]api.Record{
		{a, a},
		{a, abort(31, 1, 0)},
		{a, abort(48, 1, 32), end(47, 1, 32)},
		{commit(1<<60, 1, 0), commit(16, 1, 0)},
		worse(func(r *api.Record) { r.Kind = 0 }),
		worse(func(r *api.Record) { r.Kind = api.RecCount }),
		worse(func(r *api.Record) { r.Lsn = 15 }),
		worse(func(r *api.Record) { r.Lsn = 1<<60 + 16 }),
		worse(func(r *api.Record) { r.Txn = 0 }),
		worse(func(r *api.Record) { r.Txn = -1 }),
		worse(func(r *api.Record) { r.Txn = api.MaxTxn + 1 }),
		worse(func(r *api.Record) { r.Prev = 32 }),
		worse(func(r *api.Record) { r.Undo = 16 }),
		worse(func(r *api.Record) { r.Page = 16 }),
		worse(func(r *api.Record) { r.Page = -1 }),
		worse(func(r *api.Record) { r.Act = api.Act{} }),
		worse(func(r *api.Record) { r.Act.Old = "x" }),
		worse(func(r *api.Record) { r.Act.Key = text(17) }),
		worse(func(r *api.Record) { r.Txns = []api.Txn{{ID: 1, Last: 16}} }),
		worse(func(r *api.Record) { r.Dirty = []api.Dirty{{Page: 1, Rec: 16}} }),
		{undo(32, 1, 0, 32, 3, remove("a", "x"))},
		{opens(32), plain(api.RecOpen, 33, 1, 0)},
		{check(32, []api.Txn{{ID: 1, Last: 16}, {ID: 1, Last: 16}}, nil)},
	} {
		refusesBack(t, l, 2, 0, api.ErrArg)
		refusesBack(t, l, 2, 1<<56, api.ErrArg)
		c := clock(t, 2, 1)
		if _, e := mend.Back(l, c); e != api.ErrArg || c.Now() != 1 {
			t.Errorf("Back(%v): %d, and the clock is at %d", l, e, c.Now())
		}
		// amid what is right
		long := append([]api.Record{commit(16, 9, 0)}, l...)
		refusesBack(t, append(long, commit(1<<60+1, 9, 0)), 2, 0, api.ErrArg)
	}
}

// Where nothing is left nothing is told, and nothing ticks; but the clock sees the last record.
func TestBackOfNothing(t *testing.T) {
	tellsBack(t, nil, 3)
	tellsBack(t, []api.Record{}, 3)
	for _, count := range []uint64{0, 1, 7, 1<<56 - 1, 1 << 56} {
		c := clock(t, 3, count)
		if b, e := mend.Back(nil, c); len(b) != 0 || e != api.OK || c.Now() != count {
			t.Errorf("Back of an empty log at %d: %v, %d, %d", count, b, e, c.Now())
		}
	}
	x := update(16, 1, 0, 3, insert("a", "x"))
	rows := []api.Txn{{ID: 1, Last: 16}, {ID: 5, Last: 17}}
	for _, l := range [][]api.Record{
		{x, commit(81, 1, 16)},
		{x, end(81, 1, 16)},
		{end(81, 1, 0)},
		{opens(81)},
		{check(81, rows, []api.Dirty{{Page: 3, Rec: 16}})},
		{x, commit(32, 1, 16), opens(48), check(81, rows, nil)},
		{x, abort(32, 1, 16), undo(48, 1, 32, 0, 3, remove("a", "x")), end(81, 1, 48)},
	} {
		tellsBack(t, l, 3)
		c := clock(t, 3, 0)
		mend.Back(l, c)
		if c.Now() != 5 {
			t.Errorf("Back(%v): the clock is at %d", l, c.Now())
		}
		refused := clock(t, 3, 1<<56)
		if b, e := mend.Back(l, refused); len(b) != 0 || e != api.OK {
			t.Errorf("Back(%v) without an LSN left: %v, %d", l, b, e)
		}
	}
}

// Each kind of record as the only one, and as the last one behind an update.
func TestBackOfEachKind(t *testing.T) {
	a, b := insert("a", "x"), remove("a", "x")
	tellsBack(t, []api.Record{update(17, 7, 0, 3, a)}, 1, abort(33, 7, 17), undo(49, 7, 33, 0, 3, b), end(65, 7, 49))
	tellsBack(t, []api.Record{undo(17, 7, 16, 0, 3, a)}, 1, abort(33, 7, 17), end(49, 7, 33))
	tellsBack(t, []api.Record{commit(17, 7, 0)}, 1)
	tellsBack(t, []api.Record{abort(17, 7, 0)}, 1, end(33, 7, 17))
	tellsBack(t, []api.Record{end(17, 7, 0)}, 1)
	tellsBack(t, []api.Record{save(17, 7, 0)}, 1, abort(33, 7, 17), end(49, 7, 33))

	first := update(17, 7, 0, 3, a)
	tellsBack(t, []api.Record{first, update(33, 7, 17, 5, change("b", "x", "y"))}, 1,
		abort(49, 7, 33), undo(65, 7, 49, 17, 5, change("b", "y", "x")), undo(81, 7, 65, 0, 3, b), end(97, 7, 81))
	tellsBack(t, []api.Record{first, undo(33, 7, 17, 0, 3, b)}, 1, abort(49, 7, 33), end(65, 7, 49))
	tellsBack(t, []api.Record{first, undo(33, 7, 17, 17, 3, b)}, 1, abort(49, 7, 33), undo(65, 7, 49, 0, 3, b), end(81, 7, 65))
	tellsBack(t, []api.Record{first, commit(33, 7, 17)}, 1)
	tellsBack(t, []api.Record{first, abort(33, 7, 17)}, 1, undo(49, 7, 33, 0, 3, b), end(65, 7, 49))
	tellsBack(t, []api.Record{first, end(33, 7, 17)}, 1)
	tellsBack(t, []api.Record{first, save(33, 7, 17)}, 1, abort(49, 7, 33), undo(65, 7, 49, 0, 3, b), end(81, 7, 65))
	tellsBack(t, []api.Record{first, opens(33)}, 1, abort(49, 7, 17), undo(65, 7, 49, 0, 3, b), end(81, 7, 65))
	tellsBack(t, []api.Record{first, check(33, nil, nil)}, 1, abort(49, 7, 17), undo(65, 7, 49, 0, 3, b), end(81, 7, 65))
}

// Each change is turned round, on its own page.
func TestBackTurnsRound(t *testing.T) {
	for _, c := range []struct{ a, b api.Act }{
		{insert("a", ""), remove("a", "")},
		{insert(text(16), text(32)), remove(text(16), text(32))},
		{remove("a", "x"), insert("a", "x")},
		{change("a", "x", "yy"), change("a", "yy", "x")},
		{change("a", "", ""), change("a", "", "")},
	} {
		for id := range 16 {
			tellsBack(t, []api.Record{abort(16, api.MaxTxn, 0), update(32, api.MaxTxn, 16, id, c.a)}, 0, undo(48, api.MaxTxn, 32, 0, id, c.b), end(64, api.MaxTxn, 48))
		}
	}
}

// Open and aborted ones beside one another, with and without something: the RecAborts of the open ones, at once the RecEnds of those that have nothing, then all that is taken back, the greatest first, each RecEnd as soon as it may be.
func TestBackOfSeveral(t *testing.T) {
	a, b := insert("a", "x"), remove("a", "x")
	l := []api.Record{
		update(16, 9, 0, 4, a),         // aborted, two to be taken back
		update(32, 2, 0, 3, a),         // open, two
		save(48, api.MaxTxn, 0),        // open, nothing
		update(64, 5, 0, 5, a),         // committed
		update(80, 2, 32, 6, a),        //
		update(96, 9, 16, 7, a),        //
		abort(112, 9, 96),              //
		commit(128, 5, 64),             //
		abort(144, 4, 0),               // aborted, nothing
		update(160, 1, 0, 8, a),        // open, all taken back
		undo(176, 1, 160, 0, 8, b),     //
		update(192, 3, 0, 9, a),        // ended
		abort(208, 3, 192),             //
		undo(224, 3, 208, 0, 9, b),     //
		end(240, 3, 224),               //
		update(256, 6, 0, 10, a),       // open, one, the greatest
		check(272, nil, []api.Dirty{}), //
		update(288, 8, 0, 11, a),       // aborted, one of two is taken back
		update(304, 8, 288, 12, a),     //
		abort(320, 8, 304),             //
		undo(336, 8, 320, 288, 12, b),  //
	}
	tellsBack(t, l, 0,
		abort(352, 1, 176),
		abort(368, 2, 80),
		abort(384, 6, 256),
		abort(400, api.MaxTxn, 48),
		end(416, 1, 352),
		end(432, 4, 144),
		end(448, api.MaxTxn, 400),
		undo(464, 8, 336, 0, 11, b),
		end(480, 8, 464),
		undo(496, 6, 384, 0, 10, b),
		end(512, 6, 496),
		undo(528, 9, 112, 16, 7, b),
		undo(544, 2, 368, 32, 6, b),
		undo(560, 2, 544, 0, 3, b),
		end(576, 2, 560),
		undo(592, 9, 528, 0, 4, b),
		end(608, 9, 592),
	)
}

// Which comes first doesn't hang on the numbers of the transactions.
func TestBackGreatestFirst(t *testing.T) {
	for _, ids := range [][4]int{{1, 2, 3, 4}, {4, 3, 2, 1}, {2, 4, 1, 3}, {api.MaxTxn, 1, 256, 255}} {
		var l []api.Record
		for i := range 12 {
			at := api.Lsn(16 + 16*i)
			prev := api.Lsn(0)
			if i >= 4 {
				prev = at - 64
			}
			l = append(l, update(at, ids[i%4], prev, i, insert("a", "x")))
		}
		b, e := lookBack(t, l, 5, 0)
		if e != api.OK || len(b) != 4+12+4 {
			t.Fatalf("Back(%v): %v, %d", l, b, e)
		}
		page := 11
		for _, r := range b {
			if r.Kind == api.RecUndo {
				if r.Page != page || r.Txn != ids[page%4] {
					t.Errorf("the page %d of %d was to be taken back, not %v", page, ids[page%4], r)
				}
				page--
			}
		}
		slices.Sort(ids[:])
		for i, id := range ids {
			if b[i].Kind != api.RecAbort || b[i].Txn != id {
				t.Errorf("%d: %v", i, b[i])
			}
		}
	}
}

// Several that have the same: a record is one's alone, so the others have ErrNone, whichever number is the lowest.
func TestBackOfTheSame(t *testing.T) {
	a, b := insert("a", "x"), remove("a", "x")
	for _, ids := range [][2]int{{1, 2}, {2, 1}} {
		refusesBack(t, []api.Record{update(16, ids[0], 0, 3, a), undo(32, ids[1], 0, 16, 3, b)}, 0, 0, api.ErrNone)
		refusesBack(t, []api.Record{update(16, ids[0], 0, 3, a), abort(17, ids[0], 16), undo(32, ids[1], 0, 16, 3, b), abort(48, ids[1], 32)}, 0, 0, api.ErrNone)
		refusesBack(t, []api.Record{undo(32, ids[0], 0, 16, 3, b), undo(48, ids[1], 0, 16, 3, b)}, 0, 0, api.ErrNone)
	}
	// the same one twice of one transaction may be
	l := []api.Record{update(16, 1, 0, 3, a), update(32, 1, 16, 3, change("a", "x", "y")), undo(48, 1, 32, 16, 3, change("a", "y", "x")), undo(64, 1, 48, 32, 3, b)}
	tellsBack(t, l, 0, abort(80, 1, 64), undo(96, 1, 80, 16, 3, change("a", "y", "x")), undo(112, 1, 96, 0, 3, b), end(128, 1, 112))
}

// What Undo a RecUndo has: what Next tells of the Prev of what is taken back, whosever that is.
func TestBackUndo(t *testing.T) {
	a, b := insert("a", "x"), remove("a", "x")
	for _, c := range []struct {
		ahead []api.Record // LSNs below 100
		prev  api.Lsn      // of the update 100
		undo  api.Lsn
	}{
		{nil, 0, 0},
		{nil, 99, 0},
		{[]api.Record{save(16, 1, 0)}, 16, 0},
		{[]api.Record{save(16, 1, 0), save(32, 1, 16), save(48, 1, 32)}, 48, 0},
		{[]api.Record{update(16, 1, 0, 1, a)}, 16, 16},
		{[]api.Record{update(16, 1, 0, 1, a)}, 0, 0},
		{[]api.Record{update(16, 1, 0, 1, a)}, 17, 0},
		{[]api.Record{update(16, 1, 0, 1, a), save(32, 1, 16)}, 32, 16},
		{[]api.Record{update(16, 1, 0, 1, a), save(32, 1, 16), save(48, 1, 32), abort(64, 1, 48)}, 64, 16},
		{[]api.Record{update(16, 1, 0, 1, a), save(32, 1, 15)}, 32, 0},
		{[]api.Record{update(16, 1, 0, 1, a), save(32, 1, 0)}, 32, 0},
		{[]api.Record{update(16, 1, 0, 1, a), update(32, 1, 16, 1, a), undo(48, 1, 32, 16, 1, b)}, 48, 16},
		{[]api.Record{update(16, 1, 0, 1, a), update(32, 1, 16, 1, a), undo(48, 1, 32, 16, 1, b), save(64, 1, 48)}, 64, 16},
		{[]api.Record{update(16, 1, 0, 1, a), update(32, 1, 16, 1, a), undo(48, 1, 32, 0, 1, b)}, 48, 0},
		{[]api.Record{update(16, 1, 0, 1, a), update(32, 1, 16, 1, a), undo(48, 1, 32, 0, 1, b)}, 32, 32},
		{[]api.Record{update(16, 1, 0, 1, a), save(32, 2, 16), commit(48, 2, 32)}, 48, 16},
		{[]api.Record{update(16, 1, 0, 1, a), commit(32, 1, 16)}, 32, 16},
		{[]api.Record{update(16, 1, 0, 1, a), end(32, 1, 16), save(48, 1, 32)}, 48, 16},
	} {
		l := append(slices.Clone(c.ahead), update(100, 1, c.prev, 2, a))
		got, e := lookBack(t, l, 4, 0)
		if e != api.OK {
			t.Fatalf("Back(%v): %d", l, e)
		}
		for _, r := range got {
			if r.Kind == api.RecUndo {
				if r.Undo != c.undo || r.Page != 2 {
					t.Errorf("Back(%v): %v, and its Undo should be %d", l, r, c.undo)
				}
				break
			}
		}
	}
	// records that are others' ahead, which are told but not its own to take back
	refusesBack(t, []api.Record{update(16, 2, 0, 1, a), commit(32, 2, 16), update(48, 1, 16, 1, a)}, 4, 0, api.ErrNone)
	refusesBack(t, []api.Record{undo(16, 2, 0, 5, 1, b), commit(32, 2, 16), update(48, 1, 32, 1, a)}, 4, 0, api.ErrNone)
	l := []api.Record{undo(16, 2, 0, 0, 1, b), commit(32, 2, 16), update(48, 1, 32, 1, a)}
	tellsBack(t, l, 4, abort(68, 1, 48), undo(84, 1, 68, 0, 1, b), end(100, 1, 84))
}

// What of a transaction is taken back next is by the order of its records (All), not by their Prevs.
func TestBackBeginsWithAll(t *testing.T) {
	a, b := insert("a", "x"), remove("a", "x")
	for _, prev := range []api.Lsn{0, 16, 20, 32, 47} {
		l := []api.Record{update(16, 1, 0, 1, a), update(32, 1, 16, 2, a), save(48, 1, prev)}
		tellsBack(t, l, 0, abort(64, 1, 48), undo(80, 1, 64, 16, 2, b), undo(96, 1, 80, 0, 1, b), end(112, 1, 96))
	}
	// checkpoints' rows are passed over
	l := []api.Record{update(16, 1, 0, 1, a), check(32, []api.Txn{{ID: 1, State: api.TxnAborted, Last: 17}, {ID: 2, Last: 16}}, nil)}
	tellsBack(t, l, 0, abort(48, 1, 16), undo(64, 1, 48, 0, 1, b), end(80, 1, 64))
	// one that goes on again behind its end or commit owes only what came behind
	for _, k := range []api.Kind{api.RecCommit, api.RecEnd} {
		l := []api.Record{update(16, 1, 0, 1, a), record(k, 32, 1, 16), save(48, 1, 32)}
		tellsBack(t, l, 0, abort(64, 1, 48), end(80, 1, 64))
		l = append(l, update(64, 1, 0, 2, a))
		tellsBack(t, l, 0, abort(80, 1, 64), undo(96, 1, 80, 0, 2, b), end(112, 1, 96))
	}
}

// A record that is to be taken back is none of the log's, no RecUpdate, or another one's: first, later, and with others ahead.
func TestBackErrNone(t *testing.T) {
	a, b := insert("a", "x"), remove("a", "x")
	for _, state := range []bool{true, false} {
		for _, target := range []struct {
			l    []api.Record
			undo api.Lsn
		}{
			{nil, 1},
			{nil, 15},
			{nil, 16},
			{nil, 99},
			{[]api.Record{update(16, 1, 0, 1, a)}, 15},
			{[]api.Record{update(16, 1, 0, 1, a)}, 17},
			{[]api.Record{update(16, 2, 0, 1, a), commit(17, 2, 16)}, 16},
			{[]api.Record{save(16, 1, 0)}, 16},
			{[]api.Record{abort(16, 1, 0)}, 16},
			{[]api.Record{commit(16, 1, 0)}, 16},
			{[]api.Record{end(16, 1, 0)}, 16},
			{[]api.Record{opens(16)}, 16},
			{[]api.Record{check(16, nil, nil)}, 16},
			{[]api.Record{undo(16, 1, 0, 0, 1, b)}, 16},
			{[]api.Record{update(16, 1, 0, 1, a), save(32, 1, 16)}, 32},
		} {
			l := append(slices.Clone(target.l), undo(100, 1, 0, target.undo, 2, b))
			if !state {
				l = append(l, abort(101, 1, 100))
			}
			refusesBack(t, l, 6, 0, api.ErrNone)
			// behind what may be taken back: its own, and others'
			refusesBack(t, append(slices.Clone(l), update(112, 1, 100, 3, a)), 6, 0, api.ErrNone)
			refusesBack(t, append(slices.Clone(l), update(112, 3, 0, 3, a), update(128, 3, 112, 3, a)), 6, 0, api.ErrNone)
			// once it is over it owes nothing
			if got, e := lookBack(t, append(slices.Clone(l), commit(112, 1, 100)), 6, 0); e != api.OK || len(got) != 0 {
				t.Errorf("behind a commit: %v, %d", got, e)
			}
		}
	}
	// one that is the transaction's own, of what it did ahead of its commit, may be
	l := []api.Record{update(16, 1, 0, 1, a), commit(32, 1, 16), undo(48, 1, 0, 16, 2, b)}
	tellsBack(t, l, 6, abort(70, 1, 48), undo(86, 1, 70, 0, 1, b), end(102, 1, 86))
}

// The clock's numbers are above the log's last record, whosever log it is, and go on where the clock was, if it had seen more.
func TestBackNumbers(t *testing.T) {
	a, b := insert("a", "x"), remove("a", "x")
	for inst := range 8 {
		i := api.Lsn(inst)
		for last := api.Lsn(160); last < 168; last++ {
			l := []api.Record{update(16, 1, 0, 1, a), opens(last)}
			tellsBack(t, l, inst, abort(176+i, 1, 16), undo(192+i, 1, 176+i, 0, 1, b), end(208+i, 1, 192+i))
			for _, count := range []uint64{0, 1, 9, 10, 11, 1000, 1<<56 - 3} {
				got, e := lookBack(t, l, inst, count)
				if e != api.OK || len(got) != 3 || got[0].Lsn != api.Lsn(16*(max(10, count)+1))+i || got[0].Lsn <= last {
					t.Fatalf("a clock of %d at %d: %v, %d", inst, count, got, e)
				}
			}
		}
	}
	// what the clock tells then is above what was told
	c := clock(t, 2, 40)
	got, e := mend.Back([]api.Record{update(16, 1, 0, 1, a)}, c)
	if e != api.OK || got[2].Lsn != 16*43+2 {
		t.Fatal(got, e)
	}
	if l, e := c.Tick(); l != 16*44+2 || e != api.OK {
		t.Error("the next one:", l, e)
	}
	// an LSN that isn't valid is not seen (3.2)
	for _, last := range []api.Lsn{168, 175, 1<<60 + 8, 1<<60 + 15} {
		tellsBack(t, []api.Record{update(16, 1, 0, 1, a), opens(last)}, 0, abort(16, 1, 16), undo(32, 1, 16, 0, 1, b), end(48, 1, 32))
	}
}

// A clock without an LSN left, or with too few; with as many as are needed it is enough.
func TestBackErrOver(t *testing.T) {
	a := insert("a", "x")
	for _, c := range []struct {
		l    []api.Record
		need uint64
	}{
		{[]api.Record{abort(16, 1, 0)}, 1},
		{[]api.Record{save(16, 1, 0)}, 2},
		{[]api.Record{abort(16, 1, 0), update(32, 1, 16, 1, a)}, 2},
		{[]api.Record{update(16, 1, 0, 1, a)}, 3},
		{[]api.Record{update(16, 1, 0, 1, a), update(32, 2, 0, 1, a), save(48, 1, 16), update(64, 2, 32, 2, a)}, 7},
	} {
		for left := range uint64(10) {
			if left < c.need {
				refusesBack(t, c.l, 7, 1<<56-left, api.ErrOver)
				continue
			}
			if got, e := lookBack(t, c.l, 7, 1<<56-left); e != api.OK || uint64(len(got)) != c.need {
				t.Errorf("Back(%v) with %d left: %v, %d", c.l, left, got, e)
			}
		}
		// the log's last record takes them away
		refusesBack(t, append(slices.Clone(c.l), opens(1<<60)), 7, 0, api.ErrOver)
		refusesBack(t, append(slices.Clone(c.l), opens(1<<60+7)), 7, 0, api.ErrOver)
		refusesBack(t, append(slices.Clone(c.l), opens(api.Lsn(16*(1<<56-c.need+1)))), 7, 0, api.ErrOver)
		if got, e := lookBack(t, append(slices.Clone(c.l), opens(api.Lsn(16*(1<<56-c.need)+7))), 7, 0); e != api.OK || uint64(len(got)) != c.need || got[c.need-1].Lsn != 1<<60+7 {
			t.Errorf("Back(%v) at the end: %v, %d", c.l, got, e)
		}
	}
	// ErrNone is named ahead of ErrOver
	for left := range uint64(6) {
		refusesBack(t, []api.Record{update(16, 2, 0, 1, a), undo(32, 1, 0, 5, 1, a)}, 0, 1<<56-left, api.ErrNone)
		refusesBack(t, []api.Record{update(16, 2, 0, 1, a), update(32, 2, 16, 1, a), abort(48, 1, 0), undo(64, 1, 48, 5, 1, a)}, 0, 1<<56-left, api.ErrNone)
	}
}

// Behind an error the clock can still be used, and told is what is right.
func TestBackBehindAnError(t *testing.T) {
	a := insert("a", "x")
	c, _ := lsn.New(0)
	bad := []api.Record{update(16, 1, 0, 1, a), undo(32, 1, 16, 17, 1, a)}
	if b, e := mend.Back(bad, c); e != api.ErrNone || len(b) != 0 {
		t.Fatal(b, e)
	}
	now := api.Lsn(16 * c.Now())
	b, e := mend.Back([]api.Record{update(16, 1, 0, 1, a)}, c)
	if e != api.OK || len(b) != 3 || b[0].Lsn <= now || b[0].Lsn <= 16 || b[2].Prev != b[1].Lsn {
		t.Error(b, e)
	}
}
