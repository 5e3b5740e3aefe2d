package lock_test

import (
	"math/rand"
	"runtime"
	"slices"
	"strconv"
	"strings"
	"testing"

	"flotilla/api"
	"flotilla/lock"
	"flotilla/mode"
)

// 13.1 to 13.5, P1: every short row of calls, long rows of calls, what follows, and great tables

// sound asks that what two have on one name goes beside one another.
func sound(t *testing.T, x *lock.Table) {
	t.Helper()
	by := map[string][]holding{}
	for _, txn := range x.Txns() {
		for _, h := range x.Held(txn) {
			if !mode.Known(h.Mode) || h.Mode == api.None {
				t.Fatalf("%d has %v", txn, h)
			}
			for _, o := range by[h.Name] {
				if !mode.Beside(o.held.Mode, h.Mode) {
					t.Fatalf("%d has %v, and %d has %v", o.txn, o.held, txn, h)
				}
			}
			by[h.Name] = append(by[h.Name], holding{txn, h})
		}
	}
}

// ask is one who waits, told apart from itself when it waits again.
type ask struct{ txn, count int }

// watch is a table with its twin, and who waited for a name when others asked for it.
type watch struct {
	*twin
	count int
	now   map[int]ask   // those who wait
	ahead map[ask][]ask // for each of them that hasn't the name: who waited for it already
	seen  map[string]int
}

func newWatch(t *testing.T, seen map[string]int) *watch {
	return &watch{twin: newTwin(t), now: map[int]ask{}, ahead: map[ask][]ask{}, seen: seen}
}

func (w *watch) tell(what string, yes bool) {
	if !yes {
		what = "no " + what
	}
	w.seen[what]++
}

// behind is those who wait for a name.
func (w *watch) behind(name string) []ask {
	var all []ask
	for txn, a := range w.now {
		if n, _ := w.table.Waits(txn); n.Name == name {
			all = append(all, a)
		}
	}
	return all
}

func (w *watch) ask(txn int, n api.Want) {
	w.t.Helper()
	ahead := w.behind(n.Name)
	_, e := w.words.waiting(txn)
	had := w.words.had(txn, n.Name)
	given := w.twin.ask(txn, n)
	switch {
	case e:
		w.tell("state", true)
	case given:
		if had == api.None && len(ahead) > 0 {
			w.t.Fatalf("%d gets %v ahead of %v", txn, n, ahead)
		}
		w.tell("given", had == api.None)
		w.tell("given while others wait", len(ahead) > 0)
	default:
		w.count++
		a := ask{txn, w.count}
		w.now[txn] = a
		if had == api.None {
			w.ahead[a] = ahead
		}
		w.tell("wait", had == api.None)
	}
}

// over is what Free or Cancel of somebody told.
func (w *watch) over(txn int, all []lock.Grant) []lock.Grant {
	w.t.Helper()
	delete(w.now, txn)
	for _, g := range all {
		a, waited := w.now[g.Txn]
		if !waited {
			w.t.Fatalf("%d got %v, and didn't wait", g.Txn, g.Want)
		}
		delete(w.now, g.Txn)
		for _, o := range w.ahead[a] {
			if w.now[o.txn] == o {
				w.t.Fatalf("%d got %v ahead of %d", g.Txn, g.Want, o.txn)
			}
		}
	}
	w.tell("let in", len(all) > 0)
	w.tell("let several in", len(all) > 1)
	return all
}

func (w *watch) free(txn int) []lock.Grant {
	w.t.Helper()
	return w.over(txn, w.twin.free(txn))
}

func (w *watch) cancel(txn int) []lock.Grant {
	w.t.Helper()
	return w.over(txn, w.twin.cancel(txn))
}

// ringed is somebody's victim, if there is one.
func (w *watch) ringed() (int, bool) {
	for _, txn := range w.table.Txns() {
		if v, ok := w.table.Victim(txn); ok {
			return v, true
		}
	}
	return 0, false
}

// calm frees victims of rings, and else those who wait for nothing, till nobody is left: all others got what they waited for.
func (w *watch) calm(r *rand.Rand) {
	w.t.Helper()
	left := len(w.table.Txns())
	for range left {
		v, ring := w.ringed()
		w.tell("victim", ring)
		if !ring {
			v = w.atEase(r)
		} else if _, waits := w.table.Waits(v); !waits {
			w.t.Fatalf("the victim %d doesn't wait", v)
		}
		w.free(v) // one that isn't a victim doesn't wait: it got what it waited for
	}
	if l, m := w.table.Txns(), w.table.Edges(); len(l) != 0 || len(m) != 0 || len(w.now) != 0 {
		w.t.Fatalf("left are %v, %v", l, m)
	}
	w.look(1)
}

// atEase is one of those who wait for nothing.
func (w *watch) atEase(r *rand.Rand) int {
	w.t.Helper()
	var all []int
	for _, txn := range w.table.Txns() {
		if _, waits := w.table.Waits(txn); !waits {
			all = append(all, txn)
		}
	}
	if len(all) == 0 {
		w.t.Fatalf("all wait, and nobody is in a ring: %v", w.table.Edges())
	}
	return all[r.Intn(len(all))]
}

// everyRow does every row of so many calls, each on a new table.
func everyRow(t *testing.T, txns []int, names []string, modes []api.Mode, long int) {
	t.Helper()
	var calls []func(w *watch)
	for _, x := range txns {
		for _, name := range names {
			for _, m := range modes {
				calls = append(calls, func(w *watch) { w.ask(x, want(name, m)) })
			}
		}
		calls = append(calls, func(w *watch) { w.free(x) }, func(w *watch) { w.cancel(x) })
	}
	rows := 1
	for range long {
		rows *= len(calls)
	}
	seen := map[string]int{}
	r := rand.New(rand.NewSource(5))
	for code := range rows {
		w := newWatch(t, seen)
		for range long {
			calls[code%len(calls)](w)
			code /= len(calls)
		}
		w.look(txns...)
		sound(t, w.table)
		w.calm(r)
	}
}

func TestEveryRowOfFewCalls(t *testing.T) {
	ends(t, "every row of few calls", func() {
		everyRow(t, []int{1, 2}, []string{"a"}, modes(), 4)
		everyRow(t, []int{3, 2}, []string{"a"}, []api.Mode{api.IS, api.S, api.IX}, 4)
		everyRow(t, []int{1, 3, 2}, []string{"a"}, []api.Mode{api.S, api.X}, 4)
		everyRow(t, []int{2, 1}, []string{"b", "a"}, []api.Mode{api.S, api.X}, 4)
	})
}

// someCalls does calls in any order; asks is how many of ten calls ask.
func someCalls(r *rand.Rand, w *watch, txns []int, names []string, modes []api.Mode, steps, asks int) {
	some := func() int { return txns[r.Intn(len(txns))] }
	for range steps {
		switch k := r.Intn(10); {
		case k < asks:
			w.ask(some(), want(names[r.Intn(len(names))], modes[r.Intn(len(modes))]))
		case k%2 == 0:
			w.free(some())
		default:
			w.cancel(some())
		}
		w.look(some())
		sound(w.t, w.table)
		v, ring := w.ringed()
		w.tell("victim", ring)
		if ring && r.Intn(2) == 0 {
			w.free(v)
		}
	}
}

func TestLongRowsOfCalls(t *testing.T) {
	ends(t, "long rows of calls", func() {
		r := rand.New(rand.NewSource(13))
		seen := map[string]int{}
		weak := []api.Mode{api.IS, api.IS, api.IX, api.S, api.SIX, api.X}
		for round := range 200 {
			w := newWatch(t, seen)
			txns := []int{1, 2, 3, 4, 5, 6, 7, 8, 9, 10, 11, 12}[:2+r.Intn(11)]
			names := []string{"b", "a", "c", "ab"}[:1+r.Intn(4)]
			for part := range 3 {
				asks := []int{7, 9, 8, 6}[(part+round)%4]
				someCalls(r, w, txns, names, [][]api.Mode{weak, modes(), weak[:4]}[round%3], 50, asks)
			}
			w.calm(r)
		}
		for _, what := range []string{"given", "no given", "wait", "no wait", "state", "given while others wait", "let in", "no let in", "let several in", "victim", "no victim"} {
			if seen[what] < 40 {
				t.Errorf("too few %s: %v", what, seen)
			}
		}
	})
}

// 13.5: rows of calls without victims on the way, then all goes on till nobody is left.
func TestAllGetWhatTheyWaitFor(t *testing.T) {
	ends(t, "all get what they wait for", func() {
		r := rand.New(rand.NewSource(135))
		seen := map[string]int{}
		for range 400 {
			w := newWatch(t, seen)
			n, names := 2+r.Intn(20), []string{"a", "b", "c", "d", "e", "f"}[:1+r.Intn(6)]
			for range 4 * n {
				w.ask(1+r.Intn(n), want(names[r.Intn(len(names))], modes()[r.Intn(5)]))
			}
			w.look()
			w.calm(r)
		}
		for _, what := range []string{"victim", "no victim", "let several in", "given while others wait"} {
			if seen[what] < 100 {
				t.Errorf("too few %s: %v", what, seen)
			}
		}
	})
}

// Without rings nobody is a victim: transactions that ask for rising names, and for each once.
func TestWithoutRingsAllGetWhatTheyWaitFor(t *testing.T) {
	ends(t, "without rings", func() {
		r := rand.New(rand.NewSource(136))
		for range 200 {
			w := newWatch(t, map[string]int{})
			at := make([]int, 1+r.Intn(12))
			for range 6 * len(at) {
				i := r.Intn(len(at))
				if _, waits := w.table.Waits(i + 1); !waits {
					at[i]++
					w.ask(i+1, want(string(rune('a'+at[i])), modes()[r.Intn(5)]))
				}
			}
			if v, ok := w.ringed(); ok {
				t.Fatalf("the victim %d, without a ring", v)
			}
			w.calm(r)
			if w.seen["victim"] > 0 {
				t.Fatal("a victim, without a ring")
			}
		}
	})
}

// What a table answers hangs on what is had and on the rows alone, not on how they came.
func TestTheWayToATableIsNotSeen(t *testing.T) {
	r := rand.New(rand.NewSource(137))
	for range 100 {
		a, b := newTwin(t), newTwin(t)
		for i := 20; i > 0; i-- {
			b.ask(i, want(string(rune('a'+i%3)), modes()[i%5]))
		}
		for i := range 21 {
			b.free(i)
		}
		for range 25 {
			txn, n := 1+r.Intn(8), want(string(rune('a'+r.Intn(3))), modes()[r.Intn(5)])
			a.ask(txn, n)
			b.ask(txn, n)
		}
		if l, m := a.table.Edges(), b.table.Edges(); !slices.Equal(l, m) {
			t.Fatalf("Edges: %v and %v", l, m)
		}
		a.look()
		b.look()
	}
}

// P1: any numbers, texts and modes
func TestAnyArguments(t *testing.T) {
	ends(t, "any arguments", func() {
		w := newTwin(t)
		marks := append(modes(), api.None, -1, api.ModeCount, api.Mode(ints()[0]), api.Mode(ints()[len(ints())-1]))
		for i, txn := range ints() {
			for j, name := range texts() {
				w.ask(txn, want(name, marks[(i*7+j)%len(marks)]))
				if (i+j)%5 == 0 {
					w.cancel(txn)
				}
			}
			w.look(txn)
			if i%4 == 3 {
				w.free(ints()[i-2])
			}
		}
		w.look(ints()...)
		for _, txn := range ints() {
			w.free(txn)
		}
		w.look(ints()...)
		if l := w.table.Txns(); len(l) != 0 {
			t.Errorf("left are %v", l)
		}
	})
}

const long = 100000

// must asks for what is given, or isn't.
func must(t *testing.T, x *lock.Table, txn int, n api.Want, given bool) {
	if ok, e := x.Ask(txn, n); ok != given || e != api.OK {
		t.Fatalf("Ask(%d, %v): %v, %v", txn, n, ok, e)
	}
}

func name(i int) string { return "n" + strconv.Itoa(i) }

// P1: a long row, which goes one by one, from its front and from its midst
func TestALongRow(t *testing.T) {
	ends(t, "a long row", func() {
		x := lock.New()
		must(t, x, 1, want("a", api.X), true)
		for i := 2; i <= long; i++ {
			must(t, x, i, want("a", api.X), false)
		}
		if v, ok := x.Victim(long); ok {
			t.Fatalf("Victim: %d", v)
		}
		for i := 1; i < long/4; i++ {
			if l := x.Free(i); len(l) != 1 || l[0] != got(i+1, "a", api.X) {
				t.Fatalf("Free(%d): %v", i, l)
			}
		}
		for _, i := range rand.New(rand.NewSource(1)).Perm(long / 2) {
			if l := x.Cancel(long/4 + 1 + i); len(l) != 0 {
				t.Fatalf("Cancel: %v", l)
			}
		}
		if l := x.Free(long / 4); len(l) != 1 || l[0].Txn != long/4*3+1 {
			t.Fatalf("Free: %v", l)
		}
		if l := x.Txns(); len(l) != long/4 || l[0] != long/4*3+1 {
			t.Fatalf("Txns: %d", len(l))
		}
	})
}

// P1: very many who get something at once
func TestManyGetOneName(t *testing.T) {
	ends(t, "many get one name", func() {
		x := lock.New()
		must(t, x, long+1, want("a", api.X), true)
		for i := long; i > 0; i-- {
			must(t, x, i, want("a", api.S), false)
		}
		l := x.Free(long + 1)
		if len(l) != long || l[0].Txn != long || l[long-1].Txn != 1 {
			t.Fatalf("Free: %d", len(l))
		}
		must(t, x, long+1, want("a", api.X), false)
		e := x.Edges()
		if len(e) != long || e[0] != (api.Edge{From: long + 1, To: 1}) || e[long-1] != (api.Edge{From: long + 1, To: long}) {
			t.Fatalf("Edges: %d", len(e))
		}
		if v, ok := x.Victim(long + 1); ok {
			t.Fatalf("Victim: %d", v)
		}
		for i := 1; i < long; i++ {
			if l := x.Free(i); len(l) != 0 {
				t.Fatalf("Free(%d): %v", i, l)
			}
		}
		if l := x.Free(long); len(l) != 1 || l[0] != got(long+1, "a", api.X) {
			t.Fatalf("Free: %v", l)
		}
	})
}

// P1: very many names
func TestManyNames(t *testing.T) {
	ends(t, "many names", func() {
		x := lock.New()
		for i := 1; i <= long; i++ {
			must(t, x, long+1, want(name(i), api.X), true)
			must(t, x, i, want(name(i), api.S), false)
		}
		h := x.Held(long + 1)
		if len(h) != long || !slices.IsSortedFunc(h, func(a, b api.Held) int { return strings.Compare(a.Name, b.Name) }) {
			t.Fatalf("Held: %d", len(h))
		}
		if e := x.Edges(); len(e) != long || e[7] != (api.Edge{From: 8, To: long + 1}) {
			t.Fatalf("Edges: %d", len(e))
		}
		l := x.Free(long + 1)
		if len(l) != long || !slices.IsSortedFunc(l, func(a, b lock.Grant) int { return strings.Compare(a.Want.Name, b.Want.Name) }) {
			t.Fatalf("Free: %d", len(l))
		}
		if l := x.Txns(); len(l) != long || !slices.IsSorted(l) {
			t.Fatalf("Txns: %d", len(l))
		}
	})
}

// P1: a long ring, and behind its victim a long way on which all get what they wait for
func TestALongRing(t *testing.T) {
	ends(t, "a long ring", func() {
		x := lock.New()
		for i := 1; i <= long; i++ {
			must(t, x, i, want(name(i), api.X), true)
		}
		for i := 1; i < long; i++ {
			must(t, x, i, want(name(i+1), api.X), false)
		}
		if v, ok := x.Victim(1); ok {
			t.Fatalf("Victim: %d", v)
		}
		must(t, x, long, want(name(1), api.X), false)
		for _, txn := range []int{1, long / 2, long} {
			if v, ok := x.Victim(txn); v != long || !ok {
				t.Fatalf("Victim(%d): %d, %v", txn, v, ok)
			}
		}
		if l := x.Free(long); len(l) != 1 || l[0] != got(long-1, name(long), api.X) {
			t.Fatalf("Free: %v", l)
		}
		if v, ok := x.Victim(1); ok {
			t.Fatalf("Victim: %d", v)
		}
		for i := long - 1; i > 1; i-- {
			if l := x.Free(i); len(l) != 1 || l[0].Txn != i-1 {
				t.Fatalf("Free(%d): %v", i, l)
			}
		}
	})
}

// P1: many who all have a name, and all want more of it, with others behind them
func TestManyConversions(t *testing.T) {
	ends(t, "many conversions", func() {
		const n = 500
		x := lock.New()
		for i := 1; i <= n; i++ {
			must(t, x, i, want("a", api.S), true)
		}
		for i := 1; i <= n; i++ {
			must(t, x, n+i, want("a", api.X), false)
		}
		for i := n; i >= 1; i-- {
			must(t, x, i, want("a", api.X), false)
		}
		if e := x.Edges(); len(e) != n*(n-1)+n*n+n*(n-1)/2 {
			t.Fatalf("Edges: %d", len(e))
		}
		for i := n; i > 1; i-- {
			v, ok := x.Victim(1)
			if v != i || !ok {
				t.Fatalf("Victim: %d, %v, not %d", v, ok, i)
			}
			if _, ok := x.Victim(n + i); ok {
				t.Fatal("one who waits for a ring has a victim")
			}
			l := x.Free(i)
			if i > 2 && len(l) != 0 || i == 2 && (len(l) != 1 || l[0].Txn != 1) {
				t.Fatalf("Free(%d): %v", i, l)
			}
		}
	})
}

// held is how many bytes are in use.
func held() uint64 {
	runtime.GC()
	var m runtime.MemStats
	runtime.ReadMemStats(&m)
	return m.HeapAlloc
}

// Of what is gone nothing is kept.
func TestNothingIsKeptOfWhatIsGone(t *testing.T) {
	x := lock.New()
	must(t, x, 1, want("a", api.S), true)
	was := held()
	for round := range 300 {
		for i := range 1000 {
			txn := 2 + round*1000 + i
			must(t, x, txn, want(name(txn), api.X), true)
			must(t, x, txn, want("a", api.X), false)
			if i%2 == 0 {
				x.Cancel(txn)
			}
			if i%3 == 0 {
				x.Ask(-txn, want(name(txn), api.X))
				x.Ask(txn+1, want("", api.X))
			}
		}
		for i := range 1000 {
			x.Free(2 + round*1000 + i)
		}
	}
	if is := held(); is > was+1<<20 {
		t.Errorf("%d bytes more than at first", is-was)
	}
	runtime.KeepAlive(x)
}

// Of a long text of which a name is a piece, the name alone is kept.
func TestLongTextsAreNotKept(t *testing.T) {
	x := lock.New()
	was := held()
	for i := 1; i <= 100; i++ {
		text := name(i) + strings.Repeat("-", 1<<20)
		must(t, x, i, want(text[:len(name(i))], api.X), true)
		must(t, x, 1000+i, want(strings.Clone(text)[:len(name(i))], api.X), false)
	}
	if is := held(); is > was+10<<20 {
		t.Errorf("%d bytes are kept", is-was)
	}
	runtime.KeepAlive(x)
}
