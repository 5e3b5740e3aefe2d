package lock_test

import (
	"cmp"
	"math"
	"slices"
	"strings"
	"testing"
	"time"

	"flotilla/api"
	"flotilla/lock"
	"flotilla/mode"
)

func want(name string, m api.Mode) api.Want { return api.Want{Name: name, Mode: m} }

func got(txn int, name string, m api.Mode) lock.Grant {
	return lock.Grant{Txn: txn, Want: want(name, m)}
}

// holding is what somebody has.
type holding struct {
	txn  int
	held api.Held
}

// words is a table by the document's words: lists of what is had, and of who waits, in the order in which they asked.
type words struct {
	has   []holding
	waits []lock.Grant
}

func (w *words) had(txn int, name string) api.Mode {
	for _, h := range w.has {
		if h.txn == txn && h.held.Name == name {
			return h.held.Mode
		}
	}
	return api.None
}

func (w *words) would(a lock.Grant) api.Mode {
	return mode.Join(w.had(a.Txn, a.Want.Name), a.Want.Mode)
}

// against is the others who have a mode there that what one would have doesn't go beside.
func (w *words) against(a lock.Grant) []int {
	var all []int
	for _, h := range w.has {
		if h.txn != a.Txn && h.held.Name == a.Want.Name && !mode.Beside(h.held.Mode, w.would(a)) {
			all = append(all, h.txn)
		}
	}
	return all
}

func (w *words) row(name string) []lock.Grant {
	var first, others []lock.Grant
	for _, a := range w.waits {
		switch {
		case a.Want.Name != name:
		case w.had(a.Txn, name) != api.None:
			first = append(first, a)
		default:
			others = append(others, a)
		}
	}
	return append(first, others...)
}

func (w *words) waiting(txn int) (api.Want, bool) {
	for _, a := range w.waits {
		if a.Txn == txn {
			return a.Want, true
		}
	}
	return api.Want{}, false
}

func (w *words) give(a lock.Grant) {
	would := w.would(a)
	w.has = slices.DeleteFunc(w.has, func(h holding) bool { return h.txn == a.Txn && h.held.Name == a.Want.Name })
	w.has = append(w.has, holding{a.Txn, api.Held{Name: a.Want.Name, Mode: would}})
}

func (w *words) ask(txn int, n api.Want) (bool, api.Errno) {
	if txn < 1 || len(n.Name) < 1 || len(n.Name) > 16 || n.Mode == api.None || !mode.Known(n.Mode) {
		return false, api.ErrArg
	}
	if _, waits := w.waiting(txn); waits {
		return false, api.ErrState
	}
	a, had := lock.Grant{Txn: txn, Want: n}, w.had(txn, n.Name)
	goesIn := len(w.against(a)) == 0
	switch {
	case had != api.None && mode.Covers(had, n.Mode), had != api.None && goesIn, had == api.None && len(w.row(n.Name)) == 0 && goesIn:
		w.give(a)
		return true, api.OK
	}
	w.waits = append(w.waits, a)
	return false, api.OK
}

// stop lets somebody wait no more, and is the name for which it waited.
func (w *words) stop(txn int) []string {
	n, waits := w.waiting(txn)
	if !waits {
		return nil
	}
	w.waits = slices.DeleteFunc(w.waits, func(a lock.Grant) bool { return a.Txn == txn })
	return []string{n.Name}
}

func (w *words) letIn(names []string) []lock.Grant {
	var all []lock.Grant
	slices.Sort(names)
	for _, name := range slices.Compact(names) {
		for row := w.row(name); len(row) > 0 && len(w.against(row[0])) == 0; row = w.row(name) {
			w.stop(row[0].Txn)
			w.give(row[0])
			all = append(all, row[0])
		}
	}
	return all
}

func (w *words) free(txn int) []lock.Grant {
	names := w.stop(txn)
	for _, h := range w.held(txn) {
		names = append(names, h.Name)
	}
	w.has = slices.DeleteFunc(w.has, func(h holding) bool { return h.txn == txn })
	return w.letIn(names)
}

func (w *words) cancel(txn int) []lock.Grant { return w.letIn(w.stop(txn)) }

func (w *words) held(txn int) []api.Held {
	var all []api.Held
	for _, h := range w.has {
		if h.txn == txn {
			all = append(all, h.held)
		}
	}
	slices.SortFunc(all, func(a, b api.Held) int { return strings.Compare(a.Name, b.Name) })
	return all
}

func (w *words) txns() []int {
	var all []int
	for _, h := range w.has {
		all = append(all, h.txn)
	}
	for _, a := range w.waits {
		all = append(all, a.Txn)
	}
	slices.Sort(all)
	return slices.Compact(all)
}

func (w *words) edges() []api.Edge {
	var all []api.Edge
	for _, a := range w.waits {
		for _, to := range w.against(a) {
			all = append(all, api.Edge{From: a.Txn, To: to})
		}
		row := w.row(a.Want.Name)
		for _, b := range row[:slices.Index(row, a)] {
			all = append(all, api.Edge{From: a.Txn, To: b.Txn})
		}
	}
	slices.SortFunc(all, func(a, b api.Edge) int { return cmp.Or(cmp.Compare(a.From, b.From), cmp.Compare(a.To, b.To)) })
	return slices.Compact(all)
}

// leads is all to whom edges lead from somebody.
func leads(edges []api.Edge, from int) map[int]bool {
	come := map[int]bool{}
	for more := true; more; {
		more = false
		for _, e := range edges {
			if (e.From == from || come[e.From]) && !come[e.To] {
				come[e.To], more = true, true
			}
		}
	}
	return come
}

func victim(edges []api.Edge, txn int) (int, bool) {
	greatest, ok := 0, false
	for x := range leads(edges, txn) {
		if leads(edges, x)[txn] {
			greatest, ok = max(greatest, x), true
		}
	}
	return greatest, ok
}

// twin is a table, and beside it what it must have.
type twin struct {
	t     *testing.T
	table *lock.Table
	words words
}

func newTwin(t *testing.T) *twin {
	t.Helper()
	w := &twin{t: t, table: lock.New()}
	if w.table == nil {
		t.Fatal("New: nil")
	}
	return w
}

// ask asks, and tells whether it was given.
func (w *twin) ask(txn int, n api.Want) bool {
	w.t.Helper()
	ok, e := w.words.ask(txn, n)
	if is, f := w.table.Ask(txn, n); is != ok || f != e {
		w.t.Fatalf("Ask(%d, %v): %v, %v, not %v, %v; with %v", txn, n, is, f, ok, e, w.words)
	}
	return ok
}

// has asks for what is given at once.
func (w *twin) has(txn int, name string, m api.Mode) {
	w.t.Helper()
	if !w.ask(txn, want(name, m)) {
		w.t.Fatalf("%d doesn't get %v on %s", txn, m, name)
	}
}

// waits asks for what isn't given.
func (w *twin) waits(txn int, name string, m api.Mode) {
	w.t.Helper()
	if w.ask(txn, want(name, m)) {
		w.t.Fatalf("%d gets %v on %s", txn, m, name)
	}
	if n, ok := w.table.Waits(txn); !ok || n != want(name, m) {
		w.t.Fatalf("Waits(%d): %v, %v", txn, n, ok)
	}
}

// refused asks for what is refused, and that nothing changes.
func (w *twin) refused(txn int, n api.Want, e api.Errno) {
	w.t.Helper()
	if is, f := w.table.Ask(txn, n); is || f != e {
		w.t.Fatalf("Ask(%d, %v): %v, %v, not false, %v", txn, n, is, f, e)
	}
	if is, f := w.words.ask(txn, n); is || f != e {
		w.t.Fatal("words:", is, f)
	}
	w.look(txn)
}

func (w *twin) told(what string, txn int, all, want []lock.Grant) []lock.Grant {
	w.t.Helper()
	if !slices.Equal(all, want) {
		w.t.Fatalf("%s(%d): %v, not %v; left: %v", what, txn, all, want, w.words)
	}
	scribble(all, got(-5, "none", api.ModeCount))
	return want
}

func (w *twin) free(txn int) []lock.Grant {
	w.t.Helper()
	return w.told("Free", txn, w.table.Free(txn), w.words.free(txn))
}

func (w *twin) cancel(txn int) []lock.Grant {
	w.t.Helper()
	return w.told("Cancel", txn, w.table.Cancel(txn), w.words.cancel(txn))
}

// frees and cancels ask that just these get something.
func (w *twin) frees(txn int, all ...lock.Grant) {
	w.t.Helper()
	if l := w.free(txn); !slices.Equal(l, all) {
		w.t.Fatalf("Free(%d): %v, not %v", txn, l, all)
	}
	w.look(txn)
}

func (w *twin) cancels(txn int, all ...lock.Grant) {
	w.t.Helper()
	if l := w.cancel(txn); !slices.Equal(l, all) {
		w.t.Fatalf("Cancel(%d): %v, not %v", txn, l, all)
	}
	w.look(txn)
}

// look asks everything, twice, and writes over what is told; others are asked beside those who have something or wait.
func (w *twin) look(others ...int) {
	w.t.Helper()
	for range 2 {
		all := w.words.txns()
		if l := w.table.Txns(); !slices.Equal(l, all) {
			w.t.Fatalf("Txns: %v, not %v", l, all)
		} else {
			scribble(l, -7)
		}
		edges := w.words.edges()
		if l := w.table.Edges(); !slices.Equal(l, edges) {
			w.t.Fatalf("Edges: %v, not %v; with %v", l, edges, w.words)
		} else {
			scribble(l, api.Edge{From: 1, To: 1})
		}
		for _, txn := range append(all, others...) {
			w.lookAt(txn, edges)
		}
	}
}

func (w *twin) lookAt(txn int, edges []api.Edge) {
	w.t.Helper()
	all := w.words.held(txn)
	if l := w.table.Held(txn); !slices.Equal(l, all) {
		w.t.Fatalf("Held(%d): %v, not %v", txn, l, all)
	} else {
		scribble(l, api.Held{Name: "none", Mode: api.ModeCount})
	}
	n, waits := w.words.waiting(txn)
	if m, ok := w.table.Waits(txn); m != n || ok != waits {
		w.t.Fatalf("Waits(%d): %v, %v, not %v, %v", txn, m, ok, n, waits)
	}
	v, ring := victim(edges, txn)
	if x, ok := w.table.Victim(txn); x != v || ok != ring {
		w.t.Fatalf("Victim(%d): %d, %v, not %d, %v; with %v", txn, x, ok, v, ring, edges)
	}
}

// held asks what somebody has.
func (w *twin) held(txn int, all ...api.Held) {
	w.t.Helper()
	if l := w.table.Held(txn); !slices.Equal(l, all) {
		w.t.Fatalf("Held(%d): %v, not %v", txn, l, all)
	}
	w.look(txn)
}

// edges asks who waits for whom; pairs are From, To.
func (w *twin) edges(pairs ...[2]int) {
	w.t.Helper()
	var all []api.Edge
	for _, p := range pairs {
		all = append(all, api.Edge{From: p[0], To: p[1]})
	}
	if l := w.table.Edges(); !slices.Equal(l, all) {
		w.t.Fatalf("Edges: %v, not %v", l, all)
	}
	w.look()
}

// victim asks who is the victim of somebody's ring; 0 is nobody.
func (w *twin) victim(txn, v int) {
	w.t.Helper()
	if x, ok := w.table.Victim(txn); x != v || ok != (v != 0) {
		w.t.Fatalf("Victim(%d): %d, %v, not %d", txn, x, ok, v)
	}
	w.look(txn)
}

// scribble writes over a list, with the room behind it.
func scribble[T any](l []T, x T) {
	l = l[:cap(l)]
	for i := range l {
		l[i] = x
	}
}

// modes are those that can be asked for.
func modes() []api.Mode { return []api.Mode{api.IS, api.IX, api.S, api.SIX, api.X} }

// ints are numbers at which something might go wrong.
func ints() []int {
	return []int{math.MinInt, math.MinInt + 1, math.MinInt32 - 1, math.MinInt32, -257, -256, -2, -1, 0, 1, 2, 255, 256, 257,
		api.MaxTxn - 1, api.MaxTxn, api.MaxTxn + 1, math.MaxInt32, math.MaxInt32 + 1, 1 << 32, 1<<32 + 1, math.MaxInt - 1, math.MaxInt}
}

// texts are texts at which something might go wrong; those of 0 and of more than 16 bytes are no names.
func texts() []string {
	return []string{"", "\x00", "\x00\x00", " ", "A", "a", "a\x00", "aa", "ab", "b", "ä", "\x7f", "\x80", "\xff", "\xff\xff",
		strings.Repeat("a", 15), strings.Repeat("a", 16), strings.Repeat("a", 17), strings.Repeat("ä", 8), strings.Repeat("ä", 9), strings.Repeat("\x00", 16), strings.Repeat("z", 1000)}
}

// ends asks that something comes to its end.
func ends(t *testing.T, what string, do func()) {
	t.Helper()
	over := make(chan any, 1)
	go func() {
		defer func() { over <- recover() }()
		do()
	}()
	select {
	case p := <-over:
		if p != nil {
			t.Fatalf("%s: a panic: %v", what, p)
		}
	case <-time.After(5 * time.Minute):
		t.Fatalf("%s: no end", what)
	}
}
