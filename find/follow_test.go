package find_test

import (
	"math/rand"
	"reflect"
	"slices"
	"testing"

	"flotilla/api"
	"flotilla/find"
)

// 18.3, memory, P1: what follows, every short log, long logs, and great ones

// ownLast is a transaction's last record since it began; 0, if it doesn't go on.
func ownLast(l []api.Record, id int) api.Lsn {
	own, _ := life(l, id)
	if len(own) == 0 {
		return 0
	}
	return own[len(own)-1].Lsn
}

// lsnOf is the next one, with a gap or without.
func lsnOf(r *rand.Rand, l []api.Record) api.Lsn {
	if len(l) == 0 {
		return api.Lsn(16 + r.Intn(8))
	}
	return l[len(l)-1].Lsn + api.Lsn(1+r.Intn(16))
}

// somewhere is an LSN below one: 0, that of a record, or any.
func somewhere(r *rand.Rand, l []api.Record, below api.Lsn) api.Lsn {
	switch n := r.Intn(5); {
	case n == 0:
		return 0
	case n == 1 || len(l) == 0:
		return api.Lsn(r.Intn(int(below)))
	}
	return l[r.Intn(len(l))].Lsn
}

// someRecord is a record of a transaction; proper ones have its last record as Prev.
func someRecord(r *rand.Rand, l []api.Record, id int, proper bool) api.Record {
	k := kinds()[[]int{0, 0, 0, 0, 0, 1, 1, 1, 2, 3, 3, 4, 5, 5, 5}[r.Intn(15)]]
	x := record(k, lsnOf(r, l), id, ownLast(l, id))
	if !proper && r.Intn(3) == 0 {
		x.Prev = somewhere(r, l, x.Lsn)
	}
	if k == api.RecUndo {
		x.Undo = somewhere(r, l, x.Lsn)
	}
	if k == api.RecUpdate || k == api.RecUndo {
		x.Page = []int{r.Intn(3), r.Intn(16)}[r.Intn(2)]
	}
	return x
}

// someRows is rows of a checkpoint, that have little to do with what is ahead.
func someRows(r *rand.Rand, l []api.Record, ids int) ([]api.Txn, []api.Dirty) {
	var list []api.Txn
	var pages []api.Dirty
	for id := 1; id <= ids+1; id++ {
		if r.Intn(2) == 0 {
			list = append(list, row(id, api.TxnState(r.Intn(3)), max(16, somewhere(r, l, 300))))
		}
	}
	for page := range 16 {
		if r.Intn(4) == 0 {
			pages = append(pages, from(page, max(16, somewhere(r, l, 300))))
		}
	}
	return list, pages
}

// trueCheck is a checkpoint whose rows are what All finds ahead of it.
func trueCheck(t *testing.T, at api.Lsn, l []api.Record) api.Record {
	t.Helper()
	left, e := find.All(l)
	if e != api.OK {
		t.Fatalf("All(%v): %d", l, e)
	}
	return check(at, left.Txns, left.Dirty)
}

// drawn is a log of up to n records, of any that may be.
func drawn(r *rand.Rand, n, ids int) []api.Record {
	var l []api.Record
	for range r.Intn(n + 1) {
		switch r.Intn(16) {
		case 0:
			l = append(l, opens(lsnOf(r, l)))
		case 1:
			list, pages := someRows(r, l, ids)
			l = append(l, check(lsnOf(r, l), list, pages))
		case 2:
			if left, _ := allByWord(l); len(left.Txns) <= 64 {
				l = append(l, check(lsnOf(r, l), left.Txns, left.Dirty))
			}
		default:
			l = append(l, someRecord(r, l, 1+r.Intn(ids), false))
		}
	}
	return l
}

// agree asks that Short finds what All finds.
func agree(t *testing.T, l []api.Record) {
	t.Helper()
	a, e := find.All(l)
	s, e2 := find.Short(l)
	if e != api.OK || e2 != api.OK || !same(a, s) {
		t.Fatalf("%v: All %v, %d, and Short %v, %d", l, a, e, s, e2)
	}
}

// 18.3: long logs with true checkpoints, each beginning of them
func TestShortFindsWhatAllFinds(t *testing.T) {
	ends(t, "true checkpoints", func() {
		r := rand.New(rand.NewSource(183))
		going, checks := 0, 0
		for range 400 {
			var l []api.Record
			ids := 1 + r.Intn(9)
			for range 60 {
				switch r.Intn(8) {
				case 0:
					l = append(l, trueCheck(t, lsnOf(r, l), l))
					checks++
				case 1:
					l = append(l, opens(lsnOf(r, l)))
				default:
					l = append(l, someRecord(r, l, 1+r.Intn(ids), true))
				}
				agree(t, l)
			}
			look(t, l)
			left, _ := find.Short(l)
			going += len(left.Txns)
		}
		if going < 400 || checks < 400 {
			t.Error("too few go on, or too few checkpoints:", going, checks)
		}
	})
}

// 18.3: drawn logs, whose checkpoints' rows are exchanged, one behind the other, for what All finds ahead
func TestRowsExchanged(t *testing.T) {
	ends(t, "rows exchanged", func() {
		r := rand.New(rand.NewSource(1830))
		differ := 0
		for range 3000 {
			l := drawn(r, 40, 4)
			for i, x := range l {
				switch {
				case x.Kind == api.RecCheck:
					l[i] = trueCheck(t, x.Lsn, l[:i])
				case x.Txn > 0:
					l[i].Prev = ownLast(l[:i], x.Txn)
				}
			}
			agree(t, l)
			look(t, l)
			// with others in the place of the last one's they don't agree for long
			for i, x := range slices.Backward(l) {
				if x.Kind == api.RecCheck {
					l[i].Txns, l[i].Dirty = someRows(r, l[:i], 4)
					a, _ := find.All(l)
					if s, _ := find.Short(l); !same(a, s) {
						differ++
					}
					look(t, l)
					break
				}
			}
		}
		if differ < 1000 {
			t.Error("too few whose rows matter:", differ)
		}
	})
}

// 18.3: who goes on has neither a RecCommit nor a RecEnd behind its last record, which is its own
func TestWhoGoesOnIsNotOver(t *testing.T) {
	ends(t, "who goes on", func() {
		r := rand.New(rand.NewSource(1831))
		rows, again := 0, 0
		for range 3000 {
			l := drawn(r, 60, 6)
			left, e := find.All(l)
			if e != api.OK || len(left.Next) != len(left.Txns) {
				t.Fatalf("All(%v): %v, %d", l, left, e)
			}
			for _, x := range left.Txns {
				rows++
				over := false
				for _, rec := range l {
					if rec.Txn != x.ID {
						continue
					}
					over = over || rec.Kind == api.RecCommit || rec.Kind == api.RecEnd
					if rec.Lsn > x.Last || rec.Lsn == x.Last && (rec.Kind == api.RecCommit || rec.Kind == api.RecEnd) {
						t.Fatalf("%v: %v goes on, and has %v", l, x, rec)
					}
				}
				if over {
					again++
				}
			}
		}
		if rows < 3000 || again < 1000 {
			t.Error("too few go on:", rows, again)
		}
	})
}

// every short log

// choice makes the next record of a log.
type choice func(l []api.Record, at api.Lsn) api.Record

// choicesOf is what a transaction may do next; proper ones have its last record as Prev.
func choicesOf(id int) []choice {
	all := []choice{
		func(l []api.Record, at api.Lsn) api.Record { return undo(at, id, ownLast(l, id), at-16, id) },
	}
	for _, k := range kinds() {
		all = append(all, func(l []api.Record, at api.Lsn) api.Record { return record(k, at, id, ownLast(l, id)) })
	}
	return all
}

// wildOf is what it may do next with another Prev.
func wildOf(id int) []choice {
	return []choice{
		func(l []api.Record, at api.Lsn) api.Record { return save(at, id, 0) },
		func(l []api.Record, at api.Lsn) api.Record { return save(at, id, 16) },
		func(l []api.Record, at api.Lsn) api.Record { return abort(at, id, at-1) },
		func(l []api.Record, at api.Lsn) api.Record {
			return check(at, txns(row(id, open, at-16)), dirty(from(3, 16)))
		},
		func(l []api.Record, at api.Lsn) api.Record {
			return check(at, txns(row(id, aborted, at-32), row(id+1, committed, 32)), dirty(from(3, at)))
		},
		func(l []api.Record, at api.Lsn) api.Record { return check(at, nil, nil) },
	}
}

// everyLog goes through all logs of up to so many records.
func everyLog(l []api.Record, long int, choices []choice, visit func(l []api.Record)) {
	visit(l)
	if len(l) == long {
		return
	}
	for _, c := range choices {
		next := slices.Clone(l)
		everyLog(append(next, c(l, api.Lsn(32+16*len(l)))), long, choices, visit)
	}
}

func TestEveryShortLog(t *testing.T) {
	ends(t, "every short log", func() {
		seen := 0
		visit := func(l []api.Record) { look(t, l); seen++ }
		everyLog(nil, 4, append(choicesOf(1), wildOf(1)...), visit)
		everyLog(nil, 3, slices.Concat(choicesOf(1), choicesOf(2), wildOf(1), wildOf(2)), visit)
		if seen < 40000 {
			t.Error("too few:", seen)
		}
	})
}

// 18.3: all of them whose checkpoints are true
func TestEveryShortLogWithTrueCheckpoints(t *testing.T) {
	ends(t, "every short log with true checkpoints", func() {
		checks := choice(func(l []api.Record, at api.Lsn) api.Record { return trueCheck(t, at, l) })
		visit := func(l []api.Record) { agree(t, l) }
		everyLog(nil, 5, append(choicesOf(1), checks), visit)
		everyLog(nil, 4, append(append(choicesOf(1), choicesOf(2)...), checks), visit)
	})
}

// long logs of drawn records

func TestDrawnLogs(t *testing.T) {
	ends(t, "drawn logs", func() {
		r := rand.New(rand.NewSource(18))
		seen := map[string]int{}
		for range 4000 {
			l := drawn(r, 50, 1+r.Intn(8))
			look(t, l)
			left, _ := find.Short(l)
			for i, x := range left.Txns {
				if left.Next[i] > 0 {
					seen["something to be taken back"]++
				}
				if x.State == aborted {
					seen["aborted"]++
				}
				if l[len(l)-1].Lsn < x.Last {
					seen["a row's LSN above all"]++
				}
			}
			if len(left.Dirty) > 8 {
				seen["many pages"]++
			}
			if len(left.Txns) == 0 {
				seen["nobody"]++
			}
			if i := slices.IndexFunc(l, func(r api.Record) bool { return r.Kind == api.RecCheck }); i < 0 {
				seen["no checkpoint"]++
			}
		}
		for _, what := range []string{"something to be taken back", "aborted", "a row's LSN above all", "many pages", "nobody", "no checkpoint"} {
			if seen[what] < 100 {
				t.Errorf("too few: %s: %v", what, seen)
			}
		}
	})
}

// The same with one record that may not be, or one LSN that doesn't rise.
func TestDrawnLogsWithAFault(t *testing.T) {
	ends(t, "drawn logs with a fault", func() {
		r := rand.New(rand.NewSource(1801))
		for range 2000 {
			l := drawn(r, 30, 4)
			if len(l) < 2 {
				continue
			}
			if i := r.Intn(len(l)); i > 0 && r.Intn(2) == 0 {
				l[i].Lsn = l[r.Intn(i)].Lsn
				l[i].Prev, l[i].Undo = 0, 0
			} else {
				all := wrong(l[i].Lsn)
				l[i] = all[r.Intn(len(all))]
			}
			refused(t, l)
		}
	})
}

// What is told hangs on the records alone: not on what was asked before, nor on how often.
func TestToldAgain(t *testing.T) {
	r := rand.New(rand.NewSource(1802))
	for range 100 {
		l := drawn(r, 80, 30)
		all, _ := find.All(l)
		short, _ := find.Short(l)
		for range 10 {
			find.All(drawn(r, 5, 3))
			a, _ := find.All(l)
			s, _ := find.Short(l)
			if !same(a, all) || !same(s, short) {
				t.Fatalf("%v: %v, then %v; %v, then %v", l, all, a, short, s)
			}
		}
	}
}

// Memory

// withRoom is a log with room behind its list and behind those of its checkpoints, all of it written to.
func withRoom() []api.Record {
	list := make([]api.Txn, 6)
	pages := make([]api.Dirty, 6)
	for i := range 6 {
		list[i] = row(7+i, []api.TxnState{open, aborted}[i%2], api.Lsn(16+i))
		pages[i] = from(3+i, api.Lsn(16+i))
	}
	l := []api.Record{
		update(16, 7, 0, 3), save(17, 8, 0), check(32, list[:2], pages[:2]), check(48, list[:4], pages[:4]),
		save(64, 7, 16), update(80, 20, 0, 1), check(96, list[:1], pages[:1]), save(112, 1, 0),
	}
	return l[:6]
}

// scribble writes over all that is told, with the room behind its lists.
func scribble(l find.Left) {
	for i := range l.Txns[:cap(l.Txns)] {
		l.Txns[:cap(l.Txns)][i] = row(99, 99, 99)
	}
	for i := range l.Next[:cap(l.Next)] {
		l.Next[:cap(l.Next)][i] = 99
	}
	for i := range l.Dirty[:cap(l.Dirty)] {
		l.Dirty[:cap(l.Dirty)][i] = from(99, 99)
	}
}

func copied(l find.Left) find.Left {
	l.Txns, l.Next, l.Dirty = slices.Clone(l.Txns), slices.Clone(l.Next), slices.Clone(l.Dirty)
	return l
}

// What is handed in stays as it was, and nothing that is told shares memory with it, or with what else is told.
func TestMemory(t *testing.T) {
	for what, call := range map[string]func([]api.Record) (find.Left, api.Errno){"All": find.All, "Short": find.Short} {
		for n := range 7 {
			l := withRoom()[:n]
			was := deep(l)
			a, _ := call(l)
			b, _ := call(l)
			find.Check(l)
			find.Next(l, 64)
			if !reflect.DeepEqual(deep(l), was) {
				t.Fatalf("%s: what was handed in became %v", what, deep(l))
			}
			want := copied(b)
			scribble(a)
			if !same(b, want) {
				t.Fatalf("%s: two answers share memory: %v", what, b)
			}
			if !reflect.DeepEqual(deep(l), was) {
				t.Fatalf("%s: what was told is what was handed in: %v", what, deep(l))
			}
			if c, _ := call(l); !same(c, want) {
				t.Fatalf("%s: what was told is kept: %v", what, c)
			}
			for i := range l {
				for k := range l[i].Txns {
					l[i].Txns[k] = row(99, 99, 99)
				}
				for k := range l[i].Dirty {
					l[i].Dirty[k] = from(99, 99)
				}
				l[i] = api.Record{Lsn: 99}
			}
			if !same(b, want) {
				t.Fatalf("%s: what was handed in is kept in what was told: %v", what, b)
			}
		}
	}
}

// P1

func TestAnyArguments(t *testing.T) {
	ends(t, "any arguments", func() {
		r := rand.New(rand.NewSource(99))
		number := func() int { return ints()[r.Intn(len(ints()))] }
		texts := []int{0, 1, 16, 17, 32, 33, 300, 70000}
		word := func() string { return text(texts[r.Intn(len(texts))]) }
		for range 20000 {
			var l []api.Record
			for range r.Intn(4) {
				if r.Intn(2) == 0 {
					l = append(l, drawn(r, 3, 3)...)
				}
				x := api.Record{Kind: api.Kind(number()), Lsn: api.Lsn(number()), Txn: number(), Prev: api.Lsn(number()), Undo: api.Lsn(number()), Page: number()}
				if r.Intn(2) == 0 {
					x.Act = api.Act{Kind: api.ActKind(number()), Key: word(), Old: word(), New: word()}
				}
				for range []int{0, 0, 1, 3, 100}[r.Intn(5)] {
					x.Txns = append(x.Txns, row(number(), api.TxnState(number()), api.Lsn(number())))
					x.Dirty = append(x.Dirty, from(number(), api.Lsn(number())))
				}
				l = append(l, x)
			}
			look(t, l)
			lookNext(t, l, api.Lsn(number()))
		}
	})
}

// Few different records that may be, in every order of LSNs, with Prevs that lead anywhere.
func TestAnyPrevs(t *testing.T) {
	ends(t, "any Prevs", func() {
		lsns := []api.Lsn{0, 15, 16, 17, 18}
		for code := range 5 * 5 * 5 * 5 * 5 * 5 {
			var n [6]api.Lsn
			for i := range n {
				n[i] = lsns[code%5]
				code /= 5
			}
			look(t, []api.Record{save(n[0], 1, n[1]), abort(n[2], 1, n[3]), end(n[4], 1, n[5])})
		}
	})
}

// Great logs: of one transaction, of very many, and with very many checkpoints.
func TestGreatLogs(t *testing.T) {
	ends(t, "great logs", func() {
		const many = 200000
		var one, all, checks []api.Record
		for i := range many {
			one = append(one, update(api.Lsn(16+i), 7, max(16, api.Lsn(15+i))-1, i%16))
			all = append(all, save(api.Lsn(16+i), many-i, 0))
			checks = append(checks, check(api.Lsn(16+i), rows(1+i%2), dirty(from(3, 16))))
		}
		left, e := find.All(one)
		if e != api.OK || len(left.Txns) != 1 || left.Txns[0] != row(7, open, many+15) || left.Next[0] != many+15 || len(left.Dirty) != 16 || left.Redo != 16 {
			t.Error("one transaction:", left, e)
		}
		left, e = find.All(all)
		if e != api.OK || len(left.Txns) != many || len(left.Dirty) != 0 {
			t.Fatal("many transactions:", len(left.Txns), e)
		}
		for i, x := range left.Txns {
			if x != row(i+1, open, api.Lsn(many+15-i)) || left.Next[i] != 0 {
				t.Fatal("many transactions:", i, x)
			}
		}
		left, e = find.Short(checks)
		if e != api.OK || len(left.Txns) != 2 || left.Redo != 16 {
			t.Error("many checkpoints:", left, e)
		}
		left, e = find.Short(append(one, check(many+16, txns(row(7, aborted, 16)), nil)))
		if e != api.OK || len(left.Txns) != 1 || left.Next[0] != 16 || left.Redo != 0 {
			t.Error("one transaction, and a checkpoint:", left, e)
		}
	})
}
