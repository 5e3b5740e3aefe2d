package graph_test

import (
	"cmp"
	"math"
	"slices"
	"testing"
	"time"

	"flotilla/graph"
)

// edge is from one thing to another one.
type edge[T cmp.Ordered] struct{ from, to T }

// words is a graph by the document's words: a list of edges, none twice.
type words[T cmp.Ordered] struct{ edges []edge[T] }

func (w *words[T]) add(from, to T) bool {
	if slices.Contains(w.edges, edge[T]{from, to}) {
		return false
	}
	w.edges = append(w.edges, edge[T]{from, to})
	return true
}

func (w *words[T]) drop(from, to T) bool {
	i := slices.Index(w.edges, edge[T]{from, to})
	if i < 0 {
		return false
	}
	w.edges = slices.Delete(w.edges, i, i+1)
	return true
}

func (w *words[T]) gone(x T) int {
	n := len(w.edges)
	w.edges = slices.DeleteFunc(w.edges, func(e edge[T]) bool { return e.from == x || e.to == x })
	return n - len(w.edges)
}

// things is all things of the edges, rising.
func (w *words[T]) things() []T {
	var all []T
	for _, e := range w.edges {
		all = append(all, e.from, e.to)
	}
	slices.Sort(all)
	return slices.Compact(all)
}

// pairs is who leads to whom: edges, and what they make one behind the other, till nothing is new.
func (w *words[T]) pairs() map[edge[T]]bool {
	all, by := map[edge[T]]bool{}, w.things()
	for _, e := range w.edges {
		all[e] = true
	}
	for _, m := range by {
		for _, a := range by {
			for _, b := range by {
				if all[edge[T]{a, m}] && all[edge[T]{m, b}] {
					all[edge[T]{a, b}] = true
				}
			}
		}
	}
	return all
}

func ring[T cmp.Ordered](pairs map[edge[T]]bool, a T) []T {
	var all []T
	for p := range pairs {
		if p.from == a && pairs[edge[T]{p.to, a}] {
			all = append(all, p.to)
		}
	}
	slices.Sort(all)
	return all
}

// twin is a graph, and beside it what it must have.
type twin[T cmp.Ordered] struct {
	t     *testing.T
	graph *graph.Graph[T]
	words words[T]
}

func newTwin[T cmp.Ordered](t *testing.T, edges ...edge[T]) *twin[T] {
	t.Helper()
	w := &twin[T]{t: t, graph: graph.New[T]()}
	if w.graph == nil {
		t.Fatal("New: nil")
	}
	w.count()
	for _, e := range edges {
		w.add(e.from, e.to)
	}
	return w
}

func (w *twin[T]) count() {
	w.t.Helper()
	if n := w.graph.Len(); n != len(w.words.edges) {
		w.t.Fatalf("Len is %d, with %v", n, w.words.edges)
	}
}

func (w *twin[T]) add(from, to T) bool {
	w.t.Helper()
	want := w.words.add(from, to)
	if got := w.graph.Add(from, to); got != want {
		w.t.Fatalf("Add(%v, %v): %v, with %v", from, to, got, w.words.edges)
	}
	w.count()
	return want
}

func (w *twin[T]) drop(from, to T) bool {
	w.t.Helper()
	want := w.words.drop(from, to)
	if got := w.graph.Drop(from, to); got != want {
		w.t.Fatalf("Drop(%v, %v): %v; left: %v", from, to, got, w.words.edges)
	}
	w.count()
	return want
}

func (w *twin[T]) gone(x T) int {
	w.t.Helper()
	want := w.words.gone(x)
	if got := w.graph.Gone(x); got != want {
		w.t.Fatalf("Gone(%v): %d, not %d; left: %v", x, got, want, w.words.edges)
	}
	w.count()
	return want
}

// look asks everything of the graph's things and of others, and writes over the rings that are told.
func (w *twin[T]) look(others ...T) {
	w.t.Helper()
	pairs := w.words.pairs()
	all := append(w.words.things(), others...)
	for _, a := range all {
		for _, b := range all {
			if got := w.graph.Leads(a, b); got != pairs[edge[T]{a, b}] {
				w.t.Fatalf("Leads(%v, %v): %v, with %v", a, b, got, w.words.edges)
			}
		}
		w.lookAt(a, ring(pairs, a))
	}
	w.count()
}

func (w *twin[T]) lookAt(a T, want []T) {
	w.t.Helper()
	for range 2 {
		got := w.graph.Ring(a)
		if !slices.Equal(got, want) {
			w.t.Fatalf("Ring(%v): %v, not %v, with %v", a, got, want, w.words.edges)
		}
		scribble(got, a)
	}
	var victim T
	if len(want) > 0 {
		victim = slices.Max(want)
	}
	if got, ok := w.graph.Victim(a); got != victim || ok != (len(want) > 0) {
		w.t.Fatalf("Victim(%v): %v, %v; its ring is %v", a, got, ok, want)
	}
}

// scribble writes over a list, with the room behind it.
func scribble[T any](l []T, x T) {
	l = l[:cap(l)]
	for i := range l {
		l[i] = x
	}
}

// ints are numbers at which something might go wrong.
func ints() []int {
	return []int{math.MinInt, math.MinInt + 1, math.MinInt32 - 1, math.MinInt32, -257, -256, -2, -1, 0, 1, 2, 255, 256, 257,
		math.MaxInt32, math.MaxInt32 + 1, 1 << 32, 1<<32 + 1, math.MaxInt - 1, math.MaxInt}
}

// texts are texts at which something might go wrong.
func texts() []string {
	return []string{"", "\x00", "\x00\x00", " ", "A", "a", "a\x00", "aa", "ab", "b", "ä", "page 1", "page 10", "page 2", "\x7f", "\x80", "\xff", "\xff\xff"}
}

// ends asks that something comes to its end.
func ends(t *testing.T, what string, do func()) {
	t.Helper()
	over := make(chan any, 1)
	go func() {
		defer func() { over <- recover() }()
		do()
	}()
	select {
	case p := <-over:
		if p != nil {
			t.Fatalf("%s: a panic: %v", what, p)
		}
	case <-time.After(5 * time.Minute):
		t.Fatalf("%s: no end", what)
	}
}
