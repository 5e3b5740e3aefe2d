package graph_test

import (
	"cmp"
	"math"
	"math/rand"
	"runtime"
	"slices"
	"testing"

	"flotilla/graph"
)

// 12.1 to 12.3, P1: all small graphs, long rows of calls, and great graphs

// everyGraph goes through every graph of some things: each edge is there or not.
func everyGraph[T cmp.Ordered](t *testing.T, things []T, do func(w *twin[T])) {
	t.Helper()
	n := len(things)
	for code := range 1 << (n * n) {
		w := newTwin[T](t)
		for i := range n * n {
			if code>>i&1 == 1 {
				w.add(things[i/n], things[i%n])
			}
		}
		do(w)
	}
}

func TestEveryGraphOfFewThings(t *testing.T) {
	ends(t, "every graph of few things", func() {
		for n := range 4 {
			everyGraph(t, []int{3, -1, 0}[:n], func(w *twin[int]) {
				w.look(1)
				ringsAgree(w)
			})
			everyGraph(t, []string{"b", "", "a"}[:n], func(w *twin[string]) {
				w.look("c")
				ringsAgree(w)
			})
		}
		everyGraph(t, []int{math.MaxInt, 0, math.MinInt, -1}, func(w *twin[int]) {
			w.look()
			ringsAgree(w)
		})
	})
}

func TestEveryGraphOfFewThingsWithoutAThing(t *testing.T) {
	ends(t, "every graph without a thing", func() {
		for _, x := range []int{3, -1, 0, 1} {
			everyGraph(t, []int{3, -1, 0}, func(w *twin[int]) {
				w.gone(x)
				w.look(x)
				w.add(x, 3)
				w.add(0, x)
				w.look()
			})
		}
	})
}

func TestEveryGraphOfFewThingsWithoutVictims(t *testing.T) {
	ends(t, "every graph without its victims", func() {
		everyGraph(t, []int{3, -1, 0}, breakRings)
		everyGraph(t, []string{"b", "", "a"}, breakRings)
		everyGraph(t, []int{math.MaxInt, 0, math.MinInt, -1}, breakRings)
	})
}

// ringsAgree asks that a ring is the ring of each of its own.
func ringsAgree[T cmp.Ordered](w *twin[T]) {
	w.t.Helper()
	for _, a := range w.words.things() {
		l := w.graph.Ring(a)
		if len(l) > 0 && !slices.Contains(l, a) {
			w.t.Fatalf("Ring(%v): %v, without itself", a, l)
		}
		for _, b := range l {
			if got := w.graph.Ring(b); !slices.Equal(got, l) {
				w.t.Fatalf("Ring(%v): %v; Ring(%v): %v", a, l, b, got)
			}
		}
	}
}

// breakRings takes all edges of each victim away, again and again, till there is none: then nobody leads to itself.
func breakRings[T cmp.Ordered](w *twin[T]) {
	w.t.Helper()
	all := w.words.things()
	for _, a := range all {
		for range len(all) + 1 {
			v, ok := w.graph.Victim(a)
			if !ok {
				break
			}
			if w.gone(v) == 0 {
				w.t.Fatalf("Victim(%v): %v, which has no edges", a, v)
			}
		}
	}
	for _, a := range all {
		if _, ok := w.graph.Victim(a); ok || w.graph.Leads(a, a) || len(w.graph.Ring(a)) != 0 {
			w.t.Fatalf("%v leads to itself, without all victims: %v", a, w.words.edges)
		}
	}
}

// everyRow does every row of so many calls at some things, each on a new graph.
func everyRow(t *testing.T, things []int, long int) {
	t.Helper()
	var calls []func(w *twin[int])
	for _, x := range things {
		for _, y := range things {
			calls = append(calls, func(w *twin[int]) { w.add(x, y) }, func(w *twin[int]) { w.drop(x, y) })
		}
		calls = append(calls, func(w *twin[int]) { w.gone(x) })
	}
	rows := 1
	for range long {
		rows *= len(calls)
	}
	for code := range rows {
		w := newTwin[int](t)
		for range long {
			calls[code%len(calls)](w)
			code /= len(calls)
		}
		w.look(things...)
	}
}

func TestEveryRowOfFewCalls(t *testing.T) {
	ends(t, "every row of few calls", func() {
		everyRow(t, []int{0}, 7)
		everyRow(t, []int{-1, 1}, 4)
		everyRow(t, []int{0, 1, 2}, 3)
	})
}

// someCalls does calls in any order at some things; adds is how many of ten calls lay an edge.
func someCalls[T cmp.Ordered](r *rand.Rand, w *twin[T], things []T, steps, adds int, seen map[string]int) {
	some := func() T { return things[r.Intn(len(things))] }
	tell := func(what string, yes bool) {
		if yes {
			seen[what]++
		} else {
			seen["no "+what]++
		}
	}
	for range steps {
		switch k := r.Intn(100); {
		case k == 0:
			tell("gone", w.gone(some()) > 0)
		case k == 1:
			w.look(some())
			ringsAgree(w)
		case k%10 < adds:
			tell("add", w.add(some(), some()))
		case len(w.words.edges) > 0 && k%3 > 0:
			e := w.words.edges[r.Intn(len(w.words.edges))]
			tell("drop", w.drop(e.from, e.to))
		default:
			tell("drop", w.drop(some(), some()))
		}
		_, ok := w.graph.Victim(some())
		tell("victim", ok)
	}
	w.look(things...)
}

func TestLongRowsOfCalls(t *testing.T) {
	ends(t, "long rows of calls", func() {
		r := rand.New(rand.NewSource(12))
		seen := map[string]int{}
		for round := range 30 {
			n := 1 + r.Intn(18)
			a, b := newTwin[int](t), newTwin[string](t)
			numbers, names := ints(), texts()
			r.Shuffle(len(numbers), func(i, j int) { numbers[i], numbers[j] = numbers[j], numbers[i] })
			r.Shuffle(len(names), func(i, j int) { names[i], names[j] = names[j], names[i] })
			for part := range 4 {
				adds := []int{4, 6, 3, 7}[(part+round)%4]
				someCalls(r, a, numbers[:n], 200, adds, seen)
				someCalls(r, b, names[:n], 200, adds, seen)
			}
			breakRings(a)
			breakRings(b)
		}
		for _, what := range []string{"add", "no add", "drop", "no drop", "gone", "no gone", "victim", "no victim"} {
			if seen[what] < 50 {
				t.Errorf("too few %s: %v", what, seen)
			}
		}
	})
}

// What a graph answers hangs on its edges alone, not on how they came.
func TestTheWayToAGraphIsNotSeen(t *testing.T) {
	r := rand.New(rand.NewSource(13))
	for range 200 {
		a, b := newTwin[int](t), newTwin[int](t)
		for range 15 {
			a.add(r.Intn(8), r.Intn(8))
		}
		for i := range 8 {
			b.add(i, 7-i)
			b.add(7-i, i)
		}
		for i := range 8 {
			b.gone(i)
		}
		for _, i := range r.Perm(len(a.words.edges)) {
			b.add(a.words.edges[i].from, a.words.edges[i].to)
		}
		for x := range 8 {
			if l, m := a.graph.Ring(x), b.graph.Ring(x); !slices.Equal(l, m) {
				t.Fatalf("Ring(%d): %v and %v, of the same edges", x, l, m)
			}
		}
		a.look()
		b.look()
	}
}

// 12.2: of other ordered things

type name string

func TestOtherThings(t *testing.T) {
	u := newTwin(t, edge[uint8]{255, 0}, edge[uint8]{0, 128}, edge[uint8]{128, 255}, edge[uint8]{1, 1})
	u.look(2)
	i := newTwin(t, edge[int8]{-128, 127}, edge[int8]{127, -128}, edge[int8]{127, 0})
	i.look(1)
	s := newTwin(t, edge[name]{"b", "a"}, edge[name]{"a", "b"}, edge[name]{"a", ""})
	s.look("c")
	f := newTwin(t, edge[float64]{-0.5, math.Inf(1)}, edge[float64]{math.Inf(1), math.Inf(-1)}, edge[float64]{math.Inf(-1), 0}, edge[float64]{0, -0.5})
	f.look(1)
}

// Both noughts of floats are one thing; which of them is told doesn't hang on the order in which a map is gone through.
func TestNoughtsOfFloatsAreOneThing(t *testing.T) {
	below := math.Copysign(0, -1)
	for range 50 {
		g := graph.New[float64]()
		for i := 1.0; i < 9; i++ {
			g.Add(0.5, i)
			if nought := float64(0); int(i)%2 == 0 {
				g.Add(i, nought)
			} else {
				g.Add(i, below)
			}
		}
		if g.Add(1, 0) || !g.Add(below, 0.5) || g.Add(0, 0.5) || g.Len() != 17 {
			t.Fatal("the noughts aren't one thing")
		}
		l := g.Ring(0.5)
		if len(l) != 10 || l[0] != 0 || math.Signbit(l[0]) {
			t.Fatalf("Ring(0.5): %v", l)
		}
		g.Gone(0.5)
		g.Add(-1, below)
		g.Add(0, -1)
		if v, ok := g.Victim(-1); v != 0 || !ok || math.Signbit(v) {
			t.Fatalf("Victim(-1): %v, %v", v, ok)
		}
		if n := g.Gone(below); n != 10 || g.Len() != 0 {
			t.Fatalf("Gone: %d", n)
		}
	}
}

// P1: of NaN nothing is promised, but that calls end.
func TestNaNsCallsEnd(t *testing.T) {
	ends(t, "NaN", func() {
		g := graph.New[float64]()
		all := []float64{math.NaN(), 1, math.NaN(), 0, 2}
		for range 20 {
			for _, x := range all {
				for _, y := range all {
					g.Add(x, y)
					g.Leads(x, y)
				}
				g.Ring(x)
				g.Victim(x)
			}
			for _, x := range all {
				for _, y := range all {
					g.Drop(x, y)
				}
			}
			for _, x := range all {
				g.Gone(x)
			}
			g.Len()
		}
	})
}

// P1: any numbers and texts
func TestAnyArguments(t *testing.T) {
	ends(t, "any arguments", func() {
		a := newTwin[int](t)
		for round, x := range ints() {
			for i, y := range ints() {
				if (i+round)%3 == 0 {
					a.add(x, y)
				} else {
					a.drop(y, x)
				}
			}
			a.look()
		}
		for _, x := range ints() {
			a.gone(x)
		}
		if n := a.graph.Len(); n != 0 {
			t.Errorf("%d edges are left", n)
		}
	})
}

const long = 200000

// P1: a long row of edges, and a long ring
func TestLongRowsOfEdges(t *testing.T) {
	ends(t, "long rows of edges", func() {
		g := graph.New[int]()
		for i := range long {
			g.Add(i, i+1)
		}
		if g.Len() != long || !g.Leads(0, long) || g.Leads(long, 0) || g.Leads(0, 0) || len(g.Ring(0)) != 0 || len(g.Ring(long/2)) != 0 {
			t.Fatal("a long row")
		}
		g.Add(long, 0)
		for _, x := range []int{0, 1, long / 2, long} {
			l := g.Ring(x)
			if len(l) != long+1 || l[0] != 0 || l[long] != long || !slices.IsSorted(l) {
				t.Fatalf("a long ring, of %d: %d things", x, len(l))
			}
			if v, ok := g.Victim(x); v != long || !ok {
				t.Fatalf("Victim(%d): %d, %v", x, v, ok)
			}
		}
		if !g.Leads(long, long) || !g.Leads(5, 4) {
			t.Fatal("a long ring: who leads to whom")
		}
		if !g.Drop(long/2, long/2+1) || g.Leads(0, 0) || !g.Leads(long/2+1, long/2) || g.Leads(long/2, long/2+1) || len(g.Ring(7)) != 0 {
			t.Fatal("a long ring, broken")
		}
		if n := g.Gone(0); n != 2 || g.Len() != long-2 {
			t.Fatalf("Gone(0): %d, and %d are left", n, g.Len())
		}
	})
}

// P1: a thing with very many edges, each of them back and forth
func TestAThingWithManyEdges(t *testing.T) {
	ends(t, "a thing with many edges", func() {
		g := graph.New[int]()
		for i := 1; i <= long; i++ {
			g.Add(0, i)
			g.Add(-i, 0)
		}
		g.Add(0, 0)
		if l := g.Ring(0); !slices.Equal(l, []int{0}) || !g.Leads(-long, long) || g.Leads(long, -long) {
			t.Fatalf("Ring(0): %d things", len(l))
		}
		for i := 1; i <= long; i++ {
			g.Add(i, 0)
			g.Add(0, -i)
		}
		l := g.Ring(long)
		if len(l) != 2*long+1 || l[0] != -long || !slices.IsSorted(l) {
			t.Fatalf("Ring: %d things", len(l))
		}
		if n := g.Gone(0); n != 4*long+1 || g.Len() != 0 {
			t.Fatalf("Gone(0): %d, and %d are left", n, g.Len())
		}
	})
}

// P1: every edge between many things
func TestAllEdgesOfManyThings(t *testing.T) {
	ends(t, "all edges", func() {
		const n = 400
		g := graph.New[int]()
		for i := range n {
			for j := range n {
				g.Add(i, j)
			}
		}
		if v, ok := g.Victim(3); g.Len() != n*n || v != n-1 || !ok {
			t.Fatalf("Len %d; Victim(3): %d, %v", g.Len(), v, ok)
		}
		for left := n - 1; left >= 0; left-- { // the victim is always the greatest that is left
			v, ok := g.Victim(0)
			if went := g.Gone(v); v != left || !ok || went != 2*left+1 || g.Len() != left*left {
				t.Fatalf("Victim(0): %d, %v, with %d things; %d went", v, ok, left+1, went)
			}
		}
		if _, ok := g.Victim(0); ok {
			t.Fatal("a ring without things")
		}
	})
}

// held is how many bytes are in use.
func held() uint64 {
	runtime.GC()
	var m runtime.MemStats
	runtime.ReadMemStats(&m)
	return m.HeapAlloc
}

// Of what is gone, nothing is kept.
func TestNothingIsKeptOfWhatIsGone(t *testing.T) {
	g := graph.New[int]()
	g.Add(-1, -2)
	was := held()
	for i := range long {
		g.Add(i, -1)
		g.Add(-2, i)
		if i%2 == 0 {
			g.Gone(i)
		} else {
			g.Drop(i, -1)
			g.Drop(-2, i)
		}
		g.Leads(i, i)
		g.Ring(i)
	}
	if now := held(); now > was+1<<20 {
		t.Errorf("%d bytes more than at first", now-was)
	}
	if n := g.Len(); n != 1 {
		t.Errorf("Len: %d", n)
	}
}
