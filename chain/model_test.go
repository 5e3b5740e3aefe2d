package chain_test

import (
	"math"
	"slices"
	"strings"
	"testing"
	"time"

	"flotilla/api"
	"flotilla/chain"
	"flotilla/rec"
)

// What the document says, a second time: a transaction is the row of all its records, out of which everything is told anew, and sizes are counted byte by byte.

// life is a transaction.
type life struct {
	id    int
	notes []api.Record
	saves []api.Lsn
}

// letters is how many bytes the texts of a change have.
func letters(a api.Act) int { return len(a.Key) + len(a.Old) + len(a.New) }

// backOf is the frame that takes a change back: two bytes of the length, 21 of the head, two of the page, one of the change's kind, three texts with two bytes each ahead, eight of Undo, four of the sum.
func backOf(r api.Record) int { return 2 + 21 + 2 + 1 + 3*2 + letters(r.Act) + 8 + 4 }

// grows is how much more a transaction needs behind a record; first tells whether it has none yet.
func grows(r api.Record, first bool) int {
	n := 0
	if first && (r.Kind == api.RecUpdate || r.Kind == api.RecSave) {
		n += 54
	}
	if r.Kind == api.RecUpdate {
		n += backOf(r)
	}
	return n
}

func (l *life) state() api.TxnState {
	for _, r := range l.notes {
		switch r.Kind {
		case api.RecCommit:
			return 1
		case api.RecAbort:
			return 2
		}
	}
	return 0
}

func (l *life) last() api.Lsn {
	if len(l.notes) == 0 {
		return 0
	}
	return l.notes[len(l.notes)-1].Lsn
}

func (l *life) next() api.Lsn {
	for _, r := range slices.Backward(l.notes) {
		switch r.Kind {
		case api.RecUpdate:
			return r.Lsn
		case api.RecUndo:
			return r.Undo
		case api.RecCommit:
			return 0
		}
	}
	return 0
}

func (l *life) need() int {
	n := 0
	for i, r := range l.notes {
		n += grows(r, i == 0)
		switch r.Kind {
		case api.RecUndo:
			n -= backOf(r)
		case api.RecCommit:
			n = 27
		case api.RecAbort:
			n -= 27
		}
		n = max(n, 0)
	}
	return n
}

// lets tells whether the state lets a record be noted.
func (l *life) lets(r api.Record) bool {
	switch r.Kind {
	case api.RecEnd:
		return l.state() != 0
	case api.RecUndo:
		return l.state() != 1 && r.Undo < l.next()
	}
	return l.state() == 0
}

// words is a table by the document's words: its transactions, in the order in which they came.
type words struct{ lives []*life }

func (w *words) find(id int) *life {
	for _, l := range w.lives {
		if l.id == id {
			return l
		}
	}
	return nil
}

func (w *words) open(id int) api.Errno {
	switch {
	case id < 1 || id > 1<<30:
		return 1
	case w.find(id) != nil:
		return 9
	}
	w.lives = append(w.lives, &life{id: id})
	return 0
}

func (w *words) need(r api.Record) int {
	l := w.find(r.Txn)
	if l == nil || rec.Check(r) != 0 {
		return 0
	}
	return grows(r, len(l.notes) == 0)
}

func (w *words) note(r api.Record) api.Errno {
	l := w.find(r.Txn)
	switch {
	case rec.Check(r) != 0 || r.Kind == api.RecOpen || r.Kind == api.RecCheck:
		return 1
	case l == nil:
		return 8
	case r.Prev != l.last() || !l.lets(r):
		return 10
	case r.Kind == api.RecEnd:
		w.gone(r.Txn)
		return 0
	}
	l.notes = append(l.notes, r)
	return 0
}

func (w *words) save(id int) (int, api.Errno) {
	l := w.find(id)
	switch {
	case l == nil:
		return 0, 8
	case l.state() != 0:
		return 0, 10
	case len(l.saves) == 4:
		return 0, 7
	}
	l.saves = append(l.saves, l.next())
	return len(l.saves) - 1, 0
}

func (w *words) mark(id, n int) (api.Lsn, api.Errno) {
	l := w.find(id)
	if l == nil || n < 0 || n > len(l.saves)-1 {
		return 0, 8
	}
	return l.saves[n], 0
}

func (w *words) drop(id, n int) api.Errno {
	_, e := w.mark(id, n)
	if e == 0 {
		l := w.find(id)
		l.saves = slices.Clone(l.saves[:n])
	}
	return e
}

func (w *words) row(id int) (api.Txn, bool) {
	l := w.find(id)
	if l == nil {
		return api.Txn{}, false
	}
	return api.Txn{ID: id, State: l.state(), Last: l.last()}, true
}

func (w *words) rows() []api.Txn {
	var all []api.Txn
	for _, l := range w.lives {
		if len(l.notes) > 0 {
			row, _ := w.row(l.id)
			all = append(all, row)
		}
	}
	slices.SortFunc(all, func(a, b api.Txn) int { return a.ID - b.ID })
	return all
}

func (w *words) gone(id int) bool {
	n := len(w.lives)
	w.lives = slices.DeleteFunc(w.lives, func(l *life) bool { return l.id == id })
	return len(w.lives) < n
}

// twin is a table beside what the document says of it: each call is done to both.
type twin struct {
	t     *testing.T
	table *chain.Table
	words *words
}

func newTwin(t *testing.T) *twin {
	t.Helper()
	w := &twin{t: t, table: chain.New(), words: &words{}}
	if w.table == nil {
		t.Fatal("New: nil")
	}
	w.look(0, 1, 7)
	return w
}

func (w *twin) same(what string, got, want any) {
	w.t.Helper()
	if got != want {
		w.t.Fatalf("%s: %v, not %v", what, got, want)
	}
}

func (w *twin) open(id int) api.Errno {
	w.t.Helper()
	e := w.table.Open(id)
	w.same("Open", e, w.words.open(id))
	return e
}

func (w *twin) need(r api.Record) int {
	w.t.Helper()
	n := w.table.Need(r)
	w.same("Need", n, w.words.need(r))
	return n
}

// note asks Need ahead of it, which it has to keep to.
func (w *twin) note(r api.Record) api.Errno {
	w.t.Helper()
	more, was := w.need(r), w.table.Kept(r.Txn)
	e := w.table.Note(r)
	if want := w.words.note(r); e != want {
		w.t.Fatalf("Note(%v): %d, not %d", r, e, want)
	}
	if is := w.table.Kept(r.Txn); e == api.OK && more > 0 && is != was+more {
		w.t.Fatalf("Note(%v): it needed %d, then %d, not %d more", r, was, is, more)
	}
	return e
}

func (w *twin) save(id int) (int, api.Errno) {
	w.t.Helper()
	n, e := w.table.Save(id)
	wantN, wantE := w.words.save(id)
	w.same("Save", e, wantE)
	w.same("Save", n, wantN)
	return n, e
}

func (w *twin) mark(id, n int) (api.Lsn, api.Errno) {
	w.t.Helper()
	l, e := w.table.Mark(id, n)
	wantL, wantE := w.words.mark(id, n)
	w.same("Mark", e, wantE)
	w.same("Mark", l, wantL)
	return l, e
}

func (w *twin) drop(id, n int) api.Errno {
	w.t.Helper()
	e := w.table.Drop(id, n)
	w.same("Drop", e, w.words.drop(id, n))
	return e
}

func (w *twin) gone(id int) bool {
	w.t.Helper()
	ok := w.table.Gone(id)
	w.same("Gone", ok, w.words.gone(id))
	return ok
}

// look holds all that the table tells of all that are there, and of some others, against the document's words.
func (w *twin) look(others ...int) {
	w.t.Helper()
	ids := others
	for _, l := range w.words.lives {
		ids = append(ids, l.id)
	}
	for _, id := range ids {
		w.lookAt(id)
	}
	if l, want := w.table.Rows(), w.words.rows(); !slices.Equal(l, want) {
		w.t.Fatalf("Rows: %v, not %v", l, want)
	}
}

func (w *twin) lookAt(id int) {
	w.t.Helper()
	row, ok := w.table.Row(id)
	want, there := w.words.row(id)
	w.same("Row", ok, there)
	w.same("Row", row, want)
	next, kept := api.Lsn(0), 0
	if there {
		next, kept = w.words.find(id).next(), w.words.find(id).need()
	}
	w.same("Next", w.table.Next(id), next)
	w.same("Kept", w.table.Kept(id), kept)
	for n := -1; n <= 5; n++ {
		w.mark(id, n)
	}
}

// is asks for a transaction by numbers that are written out.
func (w *twin) is(id int, state api.TxnState, last, next api.Lsn, kept int) {
	w.t.Helper()
	w.look(id)
	row, ok := w.table.Row(id)
	w.same("Row's bool", ok, true)
	w.same("Row", row, api.Txn{ID: id, State: state, Last: last})
	w.same("Next", w.table.Next(id), next)
	w.same("Kept", w.table.Kept(id), kept)
}

// isGone asks that a transaction isn't there.
func (w *twin) isGone(id int) {
	w.t.Helper()
	w.look(id)
	row, ok := w.table.Row(id)
	w.same("Row's bool", ok, false)
	w.same("Row", row, api.Txn{})
	w.same("Next", w.table.Next(id), api.Lsn(0))
	w.same("Kept", w.table.Kept(id), 0)
}

// opened asks that transactions may begin.
func (w *twin) opened(ids ...int) *twin {
	w.t.Helper()
	for _, id := range ids {
		w.same("Open", w.open(id), api.OK)
	}
	return w
}

// noted asks that records may be noted.
func (w *twin) noted(l ...api.Record) *twin {
	w.t.Helper()
	for _, r := range l {
		w.same("Note", w.note(r), api.OK)
	}
	w.look()
	return w
}

// refused asks that a record is not noted, with an error, and that nothing changes.
func (w *twin) refused(want api.Errno, r api.Record) {
	w.t.Helper()
	if e := w.note(r); e != want {
		w.t.Fatalf("Note(%v): %d, not %d", r, e, want)
	}
	w.look(r.Txn)
}

// plain is a record without a change.
func plain(k api.Kind, l api.Lsn, txn int, prev api.Lsn) api.Record {
	return api.Record{Kind: k, Lsn: l, Txn: txn, Prev: prev}
}

// update inserts x for a: to take it back needs 46.
func update(l api.Lsn, txn int, prev api.Lsn) api.Record {
	r := plain(api.RecUpdate, l, txn, prev)
	r.Act = api.Act{Kind: api.ActInsert, Key: "a", New: "x"}
	return r
}

// undo takes an update back: its frame has 46 bytes.
func undo(l api.Lsn, txn int, prev, undo api.Lsn) api.Record {
	r := plain(api.RecUndo, l, txn, prev)
	r.Undo = undo
	r.Act = api.Act{Kind: api.ActDelete, Key: "a", Old: "x"}
	return r
}

// record is one of a kind, as short as it may be.
func record(k api.Kind, l api.Lsn, txn int, prev api.Lsn) api.Record {
	switch k {
	case api.RecUpdate:
		return update(l, txn, prev)
	case api.RecUndo:
		return undo(l, txn, prev, 0)
	case api.RecOpen, api.RecCheck:
		return plain(k, l, 0, 0)
	}
	return plain(k, l, txn, prev)
}

// kinds is those that are a transaction's.
func kinds() []api.Kind {
	return []api.Kind{api.RecUpdate, api.RecUndo, api.RecCommit, api.RecAbort, api.RecEnd, api.RecSave}
}

// acts is changes of each kind, of all lengths at their limits.
func acts() []api.Act {
	var all []api.Act
	for _, key := range []int{1, 2, 15, 16} {
		for _, a := range []int{0, 1, 31, 32} {
			all = append(all, api.Act{Kind: api.ActInsert, Key: text(key), New: text(a)}, api.Act{Kind: api.ActDelete, Key: text(key), Old: text(a)})
			for _, b := range []int{0, 1, 31, 32} {
				all = append(all, api.Act{Kind: api.ActUpdate, Key: text(key), Old: text(a), New: text(b)})
			}
		}
	}
	return all
}

func text(n int) string { return strings.Repeat("k", n) }

// wrong is records that may not be, each of the transaction 7, and else such as the next one of it (behind prev) could be.
func wrong(l, prev api.Lsn) []api.Record {
	var all []api.Record
	add := func(r api.Record, change func(r *api.Record)) {
		change(&r)
		all = append(all, r)
	}
	for _, k := range kinds() {
		r := record(k, l, 7, prev)
		add(r, func(r *api.Record) { r.Lsn = 15; r.Prev = 0; r.Undo = 0 })
		add(r, func(r *api.Record) { r.Lsn = 0 })
		add(r, func(r *api.Record) { r.Lsn = 1<<60 + 16 })
		add(r, func(r *api.Record) { r.Lsn = math.MaxUint64 })
		add(r, func(r *api.Record) { r.Prev = l })
		add(r, func(r *api.Record) { r.Undo = l })
		add(r, func(r *api.Record) { r.Page = 16 })
		add(r, func(r *api.Record) { r.Page = -1 })
		add(r, func(r *api.Record) { r.Act.Key = text(17) })
		add(r, func(r *api.Record) { r.Act.Kind = api.ActCount })
		add(r, func(r *api.Record) { r.Txns = []api.Txn{{ID: 7, Last: 16}} })
		add(r, func(r *api.Record) { r.Dirty = []api.Dirty{{Page: 1, Rec: 16}} })
		add(r, func(r *api.Record) { r.Kind = api.RecNone })
		add(r, func(r *api.Record) { r.Kind = api.RecCount })
		add(r, func(r *api.Record) { r.Kind = -1 })
		add(r, func(r *api.Record) { r.Kind += 256 })
		add(r, func(r *api.Record) { r.Kind = math.MaxInt })
		add(r, func(r *api.Record) { r.Kind = math.MinInt })
		add(r, func(r *api.Record) { r.Kind = api.RecOpen })
		add(r, func(r *api.Record) { r.Kind = api.RecCheck })
	}
	return all
}

// ints is numbers at which something might go wrong.
func ints() []int {
	return []int{math.MinInt, math.MinInt + 1, math.MinInt32 - 1, math.MinInt32, -1<<32 + 1, -257, -256, -5, -2, -1, 0, 1, 2, 3, 4, 5, 255, 256, 257,
		api.MaxTxn - 1, api.MaxTxn, api.MaxTxn + 1, math.MaxInt32, math.MaxInt32 + 1, 1 << 32, 1<<32 + 1, 1<<32 + 7, math.MaxInt - 1, math.MaxInt}
}

// ends asks that something comes to its end.
func ends(t *testing.T, what string, do func()) {
	t.Helper()
	over := make(chan any, 1)
	go func() {
		defer func() { over <- recover() }()
		do()
	}()
	select {
	case p := <-over:
		if p != nil {
			t.Fatalf("%s: a panic: %v", what, p)
		}
	case <-time.After(5 * time.Minute):
		t.Fatalf("%s: no end", what)
	}
}
