package chain_test

import (
	"math"
	"math/rand"
	"runtime"
	"slices"
	"testing"

	"flotilla/act"
	"flotilla/api"
	"flotilla/chain"
	"flotilla/rec"
)

// 17.5, P1, memory: what is taken back, every short row of calls, long rows of calls, and great tables

// done is an update that may be taken back, and what was taken back next ahead of it.
type done struct {
	r     api.Record
	ahead api.Lsn
}

// worker does a transaction's changes, and takes them back by the records that Back makes.
type worker struct {
	w    *twin
	id   int
	last api.Lsn
	rows []done // of which nothing was taken back yet
}

func (k *worker) note(r api.Record) {
	k.w.t.Helper()
	k.w.same("Note", k.w.note(r), api.OK)
	k.last = r.Lsn
}

func (k *worker) change(r *rand.Rand, l api.Lsn) {
	k.w.t.Helper()
	all := acts()
	x := plain(api.RecUpdate, l, k.id, k.last)
	x.Act, x.Page = all[r.Intn(len(all))], r.Intn(16)
	k.rows = append(k.rows, done{x, k.w.table.Next(k.id)})
	k.note(x)
}

// back takes back what is next, and is the size of the record by which it does.
func (k *worker) back(l api.Lsn) int {
	k.w.t.Helper()
	top := k.rows[len(k.rows)-1]
	k.rows = k.rows[:len(k.rows)-1]
	k.w.same("Next", k.w.table.Next(k.id), top.r.Lsn)
	x, e := act.Back(top.r, l, k.last, top.ahead)
	k.w.same("Back", e, api.OK)
	was := k.w.table.Kept(k.id)
	k.note(x)
	k.w.same("Next behind it", k.w.table.Next(k.id), top.ahead)
	k.w.same("Kept behind it", k.w.table.Kept(k.id), was-rec.Size(x))
	return rec.Size(x)
}

// allBack takes back all that is left, ends the transaction, and holds what it needed against the frames that it took. At comes RecAbort, if it wasn't aborted yet: behind so many records, or behind all.
func (k *worker) allBack(at int, tick func() api.Lsn) {
	k.w.t.Helper()
	row, _ := k.w.table.Row(k.id)
	if row.Last == 0 {
		k.w.same("Kept", k.w.table.Kept(k.id), 0)
		return
	}
	kept, took, left := k.w.table.Kept(k.id), 0, 54
	if row.State == api.TxnAborted {
		left, at = 27, -1
	}
	abort := func() {
		k.note(plain(api.RecAbort, tick(), k.id, k.last))
		left -= 27
		took += 27
	}
	for i := 0; k.w.table.Next(k.id) != 0; i++ {
		if i == at {
			abort()
		}
		took += k.back(tick())
	}
	k.w.same("rows that are left", len(k.rows), 0)
	k.w.same("Kept, with nothing to be taken back", k.w.table.Kept(k.id), left)
	if left == 54 {
		abort()
	}
	took += 27 // RecEnd's
	k.w.same("what was needed", kept, took)
	k.w.same("Kept behind RecAbort", k.w.table.Kept(k.id), 27)
	k.note(plain(api.RecEnd, tick(), k.id, k.last))
	k.w.isGone(k.id)
}

// 17.5: one alone, with any number of changes
func TestAllIsTakenBack(t *testing.T) {
	ends(t, "all is taken back", func() {
		r := rand.New(rand.NewSource(17))
		for n := range 30 {
			for at := range n + 2 {
				l := api.Lsn(15)
				tick := func() api.Lsn { l += api.Lsn(1 + r.Intn(20)); return l }
				k := &worker{w: newTwin(t).opened(7), id: 7}
				if n%3 == 0 {
					k.note(plain(api.RecSave, tick(), 7, 0))
				}
				for range n {
					k.change(r, tick())
				}
				k.allBack(at, tick)
			}
		}
	})
}

// 17.5: several beside one another, with savepoints, changes behind what was taken back, and RecAbort anywhere
func TestSeveralAreTakenBack(t *testing.T) {
	ends(t, "several are taken back", func() {
		r := rand.New(rand.NewSource(175))
		backs := 0
		for range 150 {
			w := newTwin(t)
			l := api.Lsn(15)
			tick := func() api.Lsn { l += api.Lsn(1 + r.Intn(20)); return l }
			var all []*worker
			for id := range 1 + r.Intn(5) {
				w.opened(id + 1)
				all = append(all, &worker{w: w, id: id + 1})
			}
			for range 60 {
				k := all[r.Intn(len(all))]
				row, _ := w.table.Row(k.id)
				switch n := r.Intn(12); {
				case n < 6 && row.State == api.TxnOpen:
					k.change(r, tick())
				case n < 9 && len(k.rows) > 0:
					k.back(tick())
					backs++
				case n == 9 && row.State == api.TxnOpen:
					k.note(plain(api.RecSave, tick(), k.id, k.last))
				case n == 10 && row.State == api.TxnOpen:
					w.save(k.id)
				case n == 11 && row.Last > 0 && row.State == api.TxnOpen && r.Intn(4) == 0:
					k.note(plain(api.RecAbort, tick(), k.id, k.last))
				}
			}
			for _, k := range all {
				k.allBack(r.Intn(8), tick)
			}
		}
		if backs < 500 {
			t.Error("too few were taken back:", backs)
		}
	})
}

// 17.5: back to a savepoint comes to what it stands for, as often as one goes there.
func TestBackToSavepointsAgain(t *testing.T) {
	r := rand.New(rand.NewSource(176))
	l := api.Lsn(15)
	tick := func() api.Lsn { l++; return l }
	for range 50 {
		k := &worker{w: newTwin(t).opened(7), id: 7}
		for range r.Intn(3) {
			k.change(r, tick())
		}
		n, _ := k.w.save(7)
		kept := k.w.table.Kept(7)
		for range 5 {
			changes := 1 + r.Intn(5)
			for range changes {
				k.change(r, tick())
			}
			to, _ := k.w.mark(7, n)
			for range changes {
				k.back(tick())
			}
			k.w.same("Next", k.w.table.Next(7), to)
			if kept == 0 {
				kept = 54 // from its first record on
			}
			k.w.same("Kept", k.w.table.Kept(7), kept)
		}
		k.allBack(0, tick)
	}
}

// 17.1 to 17.4: each row of few calls, on a new table

// calls is what may be done to a transaction, by what is known of it.
func calls(id int) []func(w *twin) {
	// lsnOf is the next LSN, and the last one, of a transaction, or of one that isn't there.
	lsnOf := func(w *twin) (api.Lsn, api.Lsn) {
		l := w.words.find(id)
		if l == nil || len(l.notes) == 0 {
			return 16, 0
		}
		return l.last() + 16, l.last()
	}
	all := []func(w *twin){
		func(w *twin) { w.open(id) },
		func(w *twin) { w.save(id) },
		func(w *twin) { w.drop(id, 0) },
		func(w *twin) { w.gone(id) },
		func(w *twin) { l, prev := lsnOf(w); w.note(undo(l, id, prev, max(1, w.table.Next(id))-1)) },
		func(w *twin) { l, prev := lsnOf(w); w.note(update(l, id, prev+1)) },
	}
	for _, k := range kinds() {
		all = append(all, func(w *twin) { l, prev := lsnOf(w); w.note(record(k, l, id, prev)) })
	}
	return all
}

func TestEveryRowOfFewCalls(t *testing.T) {
	ends(t, "every row of few calls", func() {
		everyRow(t, calls(7), 5, func(w *twin) { w.opened(7) })
		everyRow(t, calls(7), 4, func(w *twin) {})
		everyRow(t, append(calls(7), calls(3)...), 3, func(w *twin) { w.opened(7, 3) })
	})
}

func everyRow(t *testing.T, calls []func(w *twin), long int, begin func(w *twin)) {
	t.Helper()
	rows := 1
	for range long {
		rows *= len(calls)
	}
	for code := range rows {
		w := &twin{t: t, table: chain.New(), words: &words{}}
		begin(w)
		for range long {
			calls[code%len(calls)](w)
			code /= len(calls)
		}
		w.look(7, 3)
	}
}

// long rows of calls in any order, of several transactions beside one another

// anyOf is a call's numbers: mostly small ones.
func anyOf(r *rand.Rand, n int) int {
	if r.Intn(20) == 0 {
		return ints()[r.Intn(len(ints()))]
	}
	return r.Intn(n)
}

// someRecord is mostly one that may be noted.
func someRecord(r *rand.Rand, w *twin, id int) api.Record {
	last, next := api.Lsn(0), api.Lsn(0)
	if l := w.words.find(id); l != nil {
		last, next = l.last(), l.next()
	}
	l := max(15, last) + api.Lsn(1+r.Intn(20))
	k := kinds()[[]int{0, 0, 0, 0, 0, 1, 1, 1, 1, 2, 3, 4, 4, 5}[r.Intn(14)]]
	x := record(k, l, id, last)
	if k == api.RecUpdate || k == api.RecUndo {
		all := acts()
		x.Act, x.Page = all[r.Intn(len(all))], r.Intn(16)
	}
	if k == api.RecUndo && next > 0 {
		x.Undo = min(l-1, next-1+api.Lsn(r.Intn(3)))
		if r.Intn(2) == 0 {
			x.Undo = api.Lsn(r.Intn(int(next)))
		}
	}
	switch r.Intn(25) {
	case 0:
		x.Prev = api.Lsn(r.Intn(int(l)))
	case 1:
		x.Kind = api.Kind(r.Intn(12) - 1)
	case 2:
		x.Page, x.Lsn = anyOf(r, 20), api.Lsn(anyOf(r, 2000))
	case 3:
		x.Txns = []api.Txn{{ID: 1, Last: 16}}
	case 4:
		x.Act.Key += text(r.Intn(20))
	}
	return x
}

func someCall(r *rand.Rand, w *twin, n int, seen map[string]int) {
	id := anyOf(r, n)
	tell := func(what string, e api.Errno) {
		seen[what+[]string{" ok", " arg", " range", " long", " end", " form", " sum", " full", " none", " twice", " state"}[e]]++
	}
	switch k := r.Intn(20); {
	case k < 2:
		tell("open", w.open(id))
	case k < 14:
		x := someRecord(r, w, id)
		tell([]string{"update", "undo", "commit", "abort", "end", "save"}[min(5, max(0, int(x.Kind)-1))], w.note(x))
	case k < 16:
		_, e := w.save(id)
		tell("savepoint", e)
	case k < 17:
		_, e := w.mark(id, anyOf(r, 6))
		tell("mark", e)
	case k < 18:
		tell("drop", w.drop(id, anyOf(r, 6)))
	case k < 19:
		w.need(someRecord(r, w, id))
	case r.Intn(4) == 0:
		if w.gone(id) {
			seen["gone"]++
		}
	}
}

func TestLongRowsOfCalls(t *testing.T) {
	ends(t, "long rows of calls", func() {
		r := rand.New(rand.NewSource(1717))
		seen := map[string]int{}
		for range 120 {
			w := newTwin(t)
			n := 2 + r.Intn(8)
			for range 300 {
				someCall(r, w, n, seen)
				w.look(r.Intn(n))
			}
		}
		for _, what := range []string{"open ok", "open arg", "open twice", "update ok", "update arg", "update none", "update state", "undo ok", "undo arg", "undo none", "undo state",
			"commit ok", "commit state", "commit none", "abort ok", "abort state", "end ok", "end state", "save ok", "save state", "save arg",
			"savepoint ok", "savepoint full", "savepoint none", "savepoint state", "mark ok", "mark none", "drop ok", "drop none", "gone"} {
			if seen[what] < 20 {
				t.Errorf("too few %s: %v", what, seen)
			}
		}
	})
}

// What one table is told, another one isn't; and what a table tells hangs on its calls alone.
func TestTablesAreOfTheirOwn(t *testing.T) {
	a, b := newTwin(t), newTwin(t)
	r, s := rand.New(rand.NewSource(3)), rand.New(rand.NewSource(4))
	seen := map[string]int{}
	for range 500 {
		someCall(r, a, 5, seen)
		someCall(s, b, 5, seen)
		a.look(1, 2, 3, 4)
		b.look(1, 2, 3, 4)
	}
}

// Memory

// withRoom is lists with room behind them, all of it written to.
func withRoom(n int) ([]api.Txn, []api.Dirty) {
	txns, dirty := make([]api.Txn, 4), make([]api.Dirty, 4)
	for i := range 4 {
		txns[i] = api.Txn{ID: 7 + i, State: api.TxnAborted, Last: api.Lsn(16 + i)}
		dirty[i] = api.Dirty{Page: i, Rec: api.Lsn(16 + i)}
	}
	return txns[:n], dirty[:n]
}

// What is handed in stays as it was, and may be written over behind a call.
func TestWhatIsHandedIn(t *testing.T) {
	for n := range 3 {
		for _, k := range append(kinds(), api.RecOpen, api.RecCheck, api.RecNone) {
			for _, s := range states() {
				w, last := inState(t, s)
				r := record(k, 80, 7, last)
				if k == api.RecOpen || k == api.RecCheck {
					r.Txn, r.Prev = 0, 0
				}
				r.Txns, r.Dirty = withRoom(n)
				was := r
				was.Txns, was.Dirty = slices.Clone(r.Txns[:4]), slices.Clone(r.Dirty[:4])
				w.need(r)
				w.note(r)
				if !slices.Equal(r.Txns[:4], was.Txns) || !slices.Equal(r.Dirty[:4], was.Dirty) {
					t.Fatalf("what was handed in became %v, with %v and %v", r, r.Txns[:4], r.Dirty[:4])
				}
				w.words = w.words.clone()
				for i := range 4 {
					r.Txns[:4][i], r.Dirty[:4][i] = api.Txn{ID: 99, Last: 99}, api.Dirty{Page: 99, Rec: 99}
				}
				r.Lsn, r.Prev, r.Undo, r.Act = 99, 99, 99, api.Act{}
				w.look(99)
			}
		}
	}
}

// clone shares no lists of records with what it is of.
func (w *words) clone() *words {
	c := &words{}
	for _, l := range w.lives {
		m := &life{id: l.id, saves: slices.Clone(l.saves)}
		for _, r := range l.notes {
			r.Txns, r.Dirty = nil, nil
			m.notes = append(m.notes, r)
		}
		c.lives = append(c.lives, m)
	}
	return c
}

// P1

func TestAnyArguments(t *testing.T) {
	ends(t, "any arguments", func() {
		r := rand.New(rand.NewSource(99))
		number := func() int { return ints()[r.Intn(len(ints()))] }
		texts := []int{0, 1, 16, 17, 32, 33, 300, 70000}
		word := func() string { return text(texts[r.Intn(len(texts))]) }
		w := newTwin(t).opened(1, 2, 3, api.MaxTxn)
		for range 4000 {
			x := api.Record{Kind: api.Kind(number()), Lsn: api.Lsn(number()), Txn: number(), Prev: api.Lsn(number()), Undo: api.Lsn(number()), Page: number()}
			if r.Intn(2) == 0 {
				x.Act = api.Act{Kind: api.ActKind(number()), Key: word(), Old: word(), New: word()}
			}
			if r.Intn(4) == 0 {
				x.Txns, x.Dirty = make([]api.Txn, r.Intn(3000)), make([]api.Dirty, r.Intn(3000))
			}
			w.need(x)
			w.note(x)
			w.open(number())
			w.save(number())
			w.mark(number(), number())
			w.drop(number(), number())
			w.lookAt(number())
			if r.Intn(50) == 0 {
				w.gone(number())
			}
		}
		w.look(ints()...)
	})
}

const many = 200000

func TestManyTransactions(t *testing.T) {
	ends(t, "many transactions", func() {
		c := chain.New()
		for i := many; i > 0; i-- {
			if c.Open(i) != api.OK {
				t.Fatalf("Open(%d)", i)
			}
			if i%2 == 0 && c.Note(update(api.Lsn(15+i), i, 0)) != api.OK {
				t.Fatalf("Note of %d", i)
			}
		}
		l := c.Rows()
		if len(l) != many/2 {
			t.Fatal("Rows:", len(l))
		}
		for i, row := range l {
			if row != (api.Txn{ID: 2 * (i + 1), Last: api.Lsn(15 + 2*(i+1))}) {
				t.Fatal("Rows:", i, row)
			}
		}
		for i := 1; i <= many; i++ {
			if !c.Gone(i) || c.Gone(i) {
				t.Fatalf("Gone(%d)", i)
			}
		}
		if l := c.Rows(); len(l) != 0 {
			t.Fatal("Rows:", len(l))
		}
	})
}

// held is how many bytes are in use.
func held() uint64 {
	runtime.GC()
	var m runtime.MemStats
	runtime.ReadMemStats(&m)
	return m.HeapAlloc
}

// Of a long transaction's records only the last one and what is taken back next are kept, and of what is gone nothing.
func TestNoMoreIsKeptThanIsNeeded(t *testing.T) {
	ends(t, "a long transaction", func() {
		c := chain.New()
		c.Open(7)
		was := held()
		last := api.Lsn(0)
		for i := range many {
			r := update(last+16, 7, last)
			r.Act.Key = text(4000)[:1+i%16]
			if c.Note(r) != api.OK {
				t.Fatal("Note:", r)
			}
			last = r.Lsn
			c.Open(8 + i)
			c.Save(8 + i)
			c.Note(update(16, 8+i, 0))
			if i%2 == 0 {
				c.Gone(8 + i)
			} else {
				c.Note(plain(api.RecAbort, 32, 8+i, 16))
				c.Note(plain(api.RecEnd, 48, 8+i, 32))
			}
		}
		if is := held(); is > was+1<<20 {
			t.Errorf("%d bytes more than at first", is-was)
		}
		want := 54
		for i := range many {
			want += 44 + 1 + 1 + i%16
		}
		if n := c.Kept(7); n != want || want > math.MaxInt32 {
			t.Errorf("Kept: %d, not %d", n, want)
		}
		for i := range 100 {
			c.Save(7)
			c.Drop(7, i%2)
		}
		if l := c.Rows(); len(l) != 1 || l[0] != (api.Txn{ID: 7, Last: last}) {
			t.Errorf("Rows: %v", l)
		}
	})
}
