package mend_test

import (
	"maps"
	"math/rand"
	"slices"
	"testing"

	"flotilla/act"
	"flotilla/api"
	"flotilla/find"
	"flotilla/lsn"
	"flotilla/mend"
	"flotilla/merge"
	"flotilla/page"
)

// 19.4: what follows, in a world of instances that change pages, each page one transaction's at a time, and crash

// worker is a transaction at work.
type worker struct {
	id, inst int
	state    api.TxnState
	last     api.Lsn
	owed     []api.Record // what it did and hasn't taken back, in order
	holds    []int        // pages that are its own till it is over
}

type world struct {
	t       *testing.T
	r       *rand.Rand
	clocks  []*lsn.Clock
	logs    [][]api.Record
	memory  []*page.Page
	disk    []*page.Page
	holder  []int               // of each page whose it is; 0: nobody's
	kept    []map[string]string // of each page what committed
	workers []*worker
	ids     int
}

func newWorld(t *testing.T, r *rand.Rand, insts, pages int) *world {
	w := &world{t: t, r: r, logs: make([][]api.Record, insts), holder: make([]int, pages)}
	for i := range insts {
		w.clocks = append(w.clocks, clock(t, i, 0))
	}
	for id := range pages {
		w.memory = append(w.memory, newPage(t, id))
		w.disk = append(w.disk, newPage(t, id))
		w.kept = append(w.kept, map[string]string{})
	}
	return w
}

func pairsOf(p *page.Page) map[string]string {
	m := map[string]string{}
	for _, x := range p.Pairs() {
		m[x.Key] = x.Value
	}
	return m
}

// log puts a record of a worker behind its instance's log.
func (w *world) log(x *worker, r api.Record) api.Record {
	at, e := w.clocks[x.inst].Tick()
	if e != api.OK {
		w.t.Fatal("no LSN:", e)
	}
	r.Lsn, r.Txn, r.Prev = at, x.id, x.last
	x.last = at
	w.logs[x.inst] = append(w.logs[x.inst], r)
	return r
}

func (w *world) redo(r api.Record) {
	if done, e := act.Redo(w.memory[r.Page], r); !done || e != api.OK {
		w.t.Fatalf("the world itself: %v: %v, %d", r, done, e)
	}
}

// someAct is a change that a page can have done to it now; false, if the one that was drawn is none.
func (w *world) someAct(p *page.Page) (api.Act, bool) {
	key := text(1 + w.r.Intn(12))
	value := text(w.r.Intn(33))
	old, is := p.Get(key)
	a := insert(key, value)
	switch {
	case is && w.r.Intn(3) > 0:
		a = change(key, old, value)
	case is:
		a = remove(key, old)
	}
	return a, act.Plan(p, a) == api.OK
}

func (w *world) change(x *worker) {
	id := w.r.Intn(len(w.memory))
	if w.holder[id] != 0 && w.holder[id] != x.id {
		return
	}
	a, ok := w.someAct(w.memory[id])
	if !ok {
		return
	}
	if w.holder[id] == 0 {
		w.holder[id] = x.id
		x.holds = append(x.holds, id)
	}
	w.clocks[x.inst].See(w.memory[id].Lsn())
	r := w.log(x, api.Record{Kind: api.RecUpdate, Page: id, Act: a})
	x.owed = append(x.owed, r)
	w.redo(r)
}

func (w *world) takeBack(x *worker) {
	n := len(x.owed) - 1
	r := x.owed[n]
	x.owed = x.owed[:n]
	next := api.Lsn(0)
	if n > 0 {
		next = x.owed[n-1].Lsn
	}
	w.redo(w.log(x, api.Record{Kind: api.RecUndo, Undo: next, Page: r.Page, Act: turned(r.Act)}))
}

func (w *world) over(x *worker) {
	for _, id := range x.holds {
		w.holder[id] = 0
	}
	w.workers = slices.DeleteFunc(w.workers, func(y *worker) bool { return y == x })
}

func (w *world) commit(x *worker) {
	w.log(x, api.Record{Kind: api.RecCommit})
	for _, id := range x.holds {
		w.kept[id] = pairsOf(w.memory[id])
	}
	w.over(x)
}

func (w *world) finish(x *worker) {
	w.log(x, api.Record{Kind: api.RecEnd})
	for _, id := range x.holds {
		if !maps.Equal(w.kept[id], pairsOf(w.memory[id])) {
			w.t.Fatal("the world itself: not all was taken back")
		}
	}
	w.over(x)
}

// checkpoint lays one into a log, with rows that are true, or without.
func (w *world) checkpoint(inst int) {
	left, _ := find.All(w.logs[inst])
	at, _ := w.clocks[inst].Tick()
	r := opens(at)
	if w.r.Intn(3) > 0 {
		r = check(at, left.Txns, left.Dirty)
	}
	w.logs[inst] = append(w.logs[inst], r)
}

func (w *world) step() {
	if len(w.workers) < 5 && w.r.Intn(4) == 0 {
		w.ids++
		w.workers = append(w.workers, &worker{id: w.ids*7919%1000 + 1, inst: w.r.Intn(len(w.logs))})
		return
	}
	if id := w.r.Intn(3 * len(w.disk)); id < len(w.disk) {
		w.disk[id] = w.memory[id].Clone()
	}
	if w.r.Intn(20) == 0 {
		w.checkpoint(w.r.Intn(len(w.logs)))
	}
	if len(w.workers) == 0 {
		return
	}
	x := w.workers[w.r.Intn(len(w.workers))]
	n := w.r.Intn(20)
	switch {
	case x.state == api.TxnAborted && len(x.owed) > 0:
		w.takeBack(x)
	case x.state == api.TxnAborted:
		w.finish(x)
	case n == 0:
		w.commit(x)
	case n == 1:
		w.log(x, api.Record{Kind: api.RecAbort})
		x.state = api.TxnAborted
	case n == 2:
		w.log(x, api.Record{Kind: api.RecSave})
	case n < 6 && len(x.owed) > 0:
		w.takeBack(x)
	default:
		w.change(x)
	}
}

func join(a, b []api.Record) []api.Record { return append(slices.Clip(slices.Clone(a)), b...) }

// backs is what Back tells of each log.
func (w *world) backs() [][]api.Record {
	var all [][]api.Record
	for i, l := range w.logs {
		b, e := lookBack(w.t, l, i, 0)
		if e != api.OK {
			w.t.Fatalf("Back(%v): %d", l, e)
		}
		all = append(all, b)
	}
	return all
}

// nothingLeft asks that a log with what Back told leaves no transaction.
func (w *world) nothingLeft(inst int, l []api.Record) {
	left, e := find.All(l)
	if e != api.OK || len(left.Txns) != 0 {
		w.t.Fatalf("%v leaves %v, %d", l, left, e)
	}
	if b, e := lookBack(w.t, l, inst, 0); e != api.OK || len(b) != 0 {
		w.t.Fatalf("Back(%v): %v, %d", l, b, e)
	}
}

// tornAnywhere asks of each beginning of what Back told that Back tells what is lacking, and once more.
func (w *world) tornAnywhere(inst int, b []api.Record) {
	l := w.logs[inst]
	w.nothingLeft(inst, join(l, b))
	for k := range len(b) + 1 {
		torn := join(l, b[:k])
		rest, e := mend.Back(torn, clock(w.t, inst, 0))
		if e != api.OK || !sameRecords(rest, b[k:]) {
			w.t.Fatalf("Back(%v), of which %d were told: %v, %d, not %v", torn, k, rest, e, b[k:])
		}
		j := w.r.Intn(len(rest) + 1)
		again := join(torn, rest[:j])
		// by somebody whose clock is ahead
		more, e := mend.Back(again, clock(w.t, w.r.Intn(8), uint64(100000+w.r.Intn(1000))))
		if e != api.OK || !sameDeeds(more, rest[j:]) {
			w.t.Fatalf("Back(%v), once more: %v, %d, not %v", again, more, e, rest[j:])
		}
		w.nothingLeft(inst, join(again, more))
	}
}

// sameDeeds tells whether records do the same, whatever their numbers are.
func sameDeeds(a, b []api.Record) bool {
	return slices.EqualFunc(a, b, func(x, y api.Record) bool {
		return x.Kind == y.Kind && x.Txn == y.Txn && x.Undo == y.Undo && x.Page == y.Page && x.Act == y.Act
	})
}

// whole is all logs as one, of each with a beginning of what Back told of it.
func (w *world) whole(backs [][]api.Record, upTo func(n int) int) []api.Record {
	var logs [][]api.Record
	for i, l := range w.logs {
		logs = append(logs, join(l, backs[i][:upTo(len(backs[i]))]))
	}
	all, e := merge.Merge(logs)
	if e != api.OK {
		w.t.Fatal("the world itself: Merge:", e)
	}
	return all
}

// pagesAreKept asks that pages that are made, at once or bit by bit, have what committed, and nothing else.
func (w *world) pagesAreKept(backs [][]api.Record) {
	all := w.whole(backs, func(n int) int { return n })
	some := w.whole(backs, func(n int) int { return w.r.Intn(n + 1) })
	for id := range w.disk {
		p := w.disk[id].Clone()
		if _, e := lookMake(w.t, p, all); e != api.OK {
			w.t.Fatalf("the page %d: %d", id, e)
		}
		if !maps.Equal(pairsOf(p), w.kept[id]) {
			w.t.Fatalf("the page %d has %v, and %v committed", id, p.Pairs(), w.kept[id])
		}
		if last := merge.Last(all, id); p.Lsn() != last {
			w.t.Fatalf("the page %d is at %d, not %d", id, p.Lsn(), last)
		}
		q := w.disk[id].Clone()
		for _, l := range [][]api.Record{some, some, all, all} {
			if _, e := mend.Make(q, l); e != api.OK {
				w.t.Fatalf("the page %d, bit by bit: %d", id, e)
			}
		}
		if !samePage(p, q) {
			w.t.Fatalf("the page %d is made bit by bit as %v, not %v", id, q.Cells(), p.Cells())
		}
	}
}

// mayCrash asks for all that must hold, were there a crash of all now.
func (w *world) mayCrash() {
	backs := w.backs()
	for i, b := range backs {
		w.tornAnywhere(i, b)
	}
	w.pagesAreKept(backs)
}

// crash is one of all, with recoveries that crash, and a last one that doesn't. The world goes on behind it.
func (w *world) crash() {
	for range w.r.Intn(3) {
		for i, b := range w.backs() {
			w.logs[i] = join(w.logs[i], b[:w.r.Intn(len(b)+1)])
		}
		// some of what was redone lies on the disk
		all := w.whole(make([][]api.Record, len(w.logs)), func(n int) int { return 0 })
		for id, p := range w.disk {
			if w.r.Intn(2) == 0 {
				if _, e := mend.Make(p, all); e != api.OK {
					w.t.Fatalf("the page %d: %d", id, e)
				}
			}
		}
		w.mayCrash()
	}
	for i := range w.logs {
		c := clock(w.t, i, 0)
		b, e := mend.Back(w.logs[i], c)
		if e != api.OK {
			w.t.Fatalf("Back(%v): %d", w.logs[i], e)
		}
		w.logs[i], w.clocks[i] = join(w.logs[i], b), c
	}
	all := w.whole(make([][]api.Record, len(w.logs)), func(n int) int { return 0 })
	for id := range w.memory {
		w.memory[id] = w.disk[id].Clone()
		if _, e := mend.Make(w.memory[id], all); e != api.OK {
			w.t.Fatalf("the page %d: %d", id, e)
		}
		w.holder[id] = 0
	}
	w.workers = nil
}

func TestWorldOfOneInstance(t *testing.T) {
	ends(t, "one instance", func() { live(t, 194, 1, 8, 60) })
}

func TestWorldOfSeveralInstances(t *testing.T) {
	ends(t, "several instances", func() { live(t, 1940, 3, 8, 60) })
}

// live has worlds live and crash; a crash of all is thought of behind each step.
func live(t *testing.T, seed int64, insts, worlds, steps int) {
	owed, had := 0, 0
	for i := range worlds {
		w := newWorld(t, rand.New(rand.NewSource(seed+int64(i))), insts, 1+i%4)
		for range 3 {
			for range steps {
				w.step()
				w.mayCrash()
			}
			for _, x := range w.workers {
				owed += len(x.owed)
			}
			for _, m := range w.kept {
				had += len(m)
			}
			w.crash()
			w.mayCrash()
		}
		lookLists(t, w.logs[0])
	}
	if owed < 3*worlds || had < 3*worlds {
		t.Error("too little to be taken back, or too little kept:", owed, had)
	}
}
