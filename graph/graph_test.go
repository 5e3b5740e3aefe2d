package graph_test

import (
	"math"
	"slices"
	"testing"

	"flotilla/graph"
)

type pair = edge[int]

// of is a graph of numbers, with an edge from the first to the second, from the third to the fourth, and so on.
func of(t *testing.T, ends ...int) *twin[int] {
	t.Helper()
	w := newTwin[int](t)
	for i := 0; i+1 < len(ends); i += 2 {
		w.add(ends[i], ends[i+1])
	}
	return w
}

func TestTheChaptersExample(t *testing.T) {
	g := graph.New[int]()
	for _, e := range []pair{{1, 2}, {2, 3}, {3, 1}, {3, 4}} {
		if !g.Add(e.from, e.to) {
			t.Errorf("Add(%d, %d): not new", e.from, e.to)
		}
	}
	if l := g.Ring(1); !slices.Equal(l, []int{1, 2, 3}) {
		t.Errorf("Ring(1): %v", l)
	}
	if v, ok := g.Victim(2); v != 3 || !ok {
		t.Errorf("Victim(2): %d, %v", v, ok)
	}
	if l := g.Ring(4); len(l) != 0 {
		t.Errorf("Ring(4): %v", l)
	}
	if n := g.Len(); n != 4 {
		t.Errorf("Len: %d", n)
	}
}

// 12.1: edges come and go

func TestNewIsEmpty(t *testing.T) {
	g := graph.New[int]()
	if g.Len() != 0 || g.Drop(0, 0) || g.Drop(1, 2) || g.Gone(0) != 0 || g.Gone(1) != 0 || g.Len() != 0 {
		t.Error("a new graph has edges")
	}
	newTwin[int](t).look(ints()...)
	newTwin[string](t).look(texts()...)
}

func TestGraphsDoNotTouchOneAnother(t *testing.T) {
	a, b := of(t, 1, 2, 2, 1), of(t, 2, 3)
	a.add(5, 6)
	b.drop(2, 3)
	b.gone(1)
	b.add(1, 2)
	a.look(3)
	b.look(3, 5, 6)
}

func TestAdd(t *testing.T) {
	g := graph.New[int]()
	for i, c := range []struct {
		from, to int
		new      bool
		len      int
	}{
		{1, 2, true, 1},
		{1, 2, false, 1},
		{2, 1, true, 2}, // the other direction is an edge of its own
		{2, 1, false, 2},
		{1, 2, false, 2},
		{1, 1, true, 3}, // from a thing to itself
		{1, 1, false, 3},
		{0, 0, true, 4}, // the zero thing is a thing
		{0, 0, false, 4},
		{0, 1, true, 5},
		{1, 0, true, 6},
		{-1, 0, true, 7},
		{-1, 0, false, 7},
	} {
		if got := g.Add(c.from, c.to); got != c.new || g.Len() != c.len {
			t.Errorf("call %d: Add(%d, %d): %v, and Len %d", i, c.from, c.to, got, g.Len())
		}
		if !g.Leads(c.from, c.to) {
			t.Errorf("call %d: the edge from %d to %d isn't there", i, c.from, c.to)
		}
	}
}

func TestDrop(t *testing.T) {
	g := graph.New[int]()
	for _, e := range []pair{{1, 2}, {2, 1}, {3, 3}, {0, 3}} {
		g.Add(e.from, e.to)
	}
	for i, c := range []struct {
		from, to int
		was      bool
		len      int
	}{
		{1, 3, false, 4}, // both are there, with no edge between
		{3, 0, false, 4}, // there is one the other way round
		{7, 1, false, 4},
		{1, 7, false, 4},
		{7, 7, false, 4},
		{1, 1, false, 4},
		{1, 2, true, 3},
		{1, 2, false, 3},
		{2, 1, true, 2}, // it was there still
		{2, 1, false, 2},
		{3, 3, true, 1},
		{3, 3, false, 1},
		{0, 3, true, 0},
		{0, 3, false, 0},
	} {
		if got := g.Drop(c.from, c.to); got != c.was || g.Len() != c.len {
			t.Errorf("call %d: Drop(%d, %d): %v, and Len %d", i, c.from, c.to, got, g.Len())
		}
		if g.Leads(c.from, c.to) && !(c.from == 1 && c.to == 1) { // 1 leads to itself through 2
			t.Errorf("call %d: the edge from %d to %d is there", i, c.from, c.to)
		}
	}
}

func TestADroppedEdgeIsNewAgain(t *testing.T) {
	w := of(t, 1, 2, 2, 3, 3, 1)
	for range 5 {
		if !w.drop(2, 3) || w.drop(2, 3) {
			t.Error("Drop(2, 3): once")
		}
		w.look(4)
		if !w.add(2, 3) || w.add(2, 3) {
			t.Error("Add(2, 3): once")
		}
		w.look(4)
	}
}

func TestGone(t *testing.T) {
	for _, c := range []struct {
		what  string
		edges []int
		x     int
		went  int
		left  []pair
	}{
		{"edges from it", []int{1, 2, 1, 3, 2, 3}, 1, 2, []pair{{2, 3}}},
		{"edges to it", []int{2, 1, 3, 1, 2, 3}, 1, 2, []pair{{2, 3}}},
		{"both", []int{1, 2, 3, 1, 2, 3, 3, 2}, 1, 2, []pair{{2, 3}, {3, 2}}},
		{"both, between the same two", []int{1, 2, 2, 1, 2, 3}, 1, 2, []pair{{2, 3}}},
		{"to itself alone", []int{1, 1, 2, 3}, 1, 1, []pair{{2, 3}}},
		{"to itself, and others", []int{1, 1, 1, 2, 2, 1, 3, 1, 2, 2}, 1, 4, []pair{{2, 2}}},
		{"none, in an edge that went", []int{2, 3}, 1, 0, []pair{{2, 3}}},
		{"none, in an empty graph", nil, 1, 0, nil},
		{"the zero thing", []int{0, 1, 1, 0, 0, 0, 1, 1}, 0, 3, []pair{{1, 1}}},
		{"the zero thing, not there", []int{1, 2, 2, 1}, 0, 0, []pair{{1, 2}, {2, 1}}},
	} {
		w := of(t, c.edges...)
		if got := w.gone(c.x); got != c.went {
			t.Errorf("%s: Gone(%d): %d", c.what, c.x, got)
		}
		w.look(c.x, 7)
		for _, e := range c.left {
			if !w.drop(e.from, e.to) {
				t.Errorf("%s: the edge %v went", c.what, e)
			}
		}
		if n := w.graph.Len(); n != 0 {
			t.Errorf("%s: %d edges more than should be", c.what, n)
		}
	}
}

func TestGoneTwiceAndBackAgain(t *testing.T) {
	w := of(t, 1, 2, 2, 1, 2, 2, 2, 3, 3, 2)
	if n := w.gone(2); n != 5 {
		t.Errorf("Gone(2): %d", n)
	}
	if n := w.gone(2); n != 0 {
		t.Errorf("Gone(2), once more: %d", n)
	}
	w.look(1, 2, 3)
	for _, e := range []pair{{1, 2}, {2, 2}, {3, 2}} {
		if !w.add(e.from, e.to) {
			t.Errorf("the edge %v is there still", e)
		}
	}
	w.look(1, 2, 3)
	if n := w.gone(1); n != 1 {
		t.Errorf("Gone(1): %d", n)
	}
	if n := w.gone(3); n != 1 {
		t.Errorf("Gone(3): %d", n)
	}
	if n := w.gone(2); n != 1 {
		t.Errorf("Gone(2), of the edge to itself: %d", n)
	}
}

// 12.2: who leads to whom

func TestLeads(t *testing.T) {
	g := graph.New[int]()
	for _, e := range []pair{{1, 2}, {2, 3}, {3, 4}, {5, 6}, {6, 5}, {7, 7}, {4, 5}, {0, 1}} {
		g.Add(e.from, e.to)
	}
	for _, c := range []struct {
		a, b int
		want bool
	}{
		{1, 2, true}, // an edge
		{2, 1, false},
		{1, 3, true}, // several
		{1, 4, true},
		{0, 6, true},
		{4, 1, false},
		{3, 2, false},
		{1, 1, false}, // one edge at the least
		{4, 4, false},
		{0, 0, false},
		{5, 5, true}, // by a ring
		{6, 6, true},
		{7, 7, true}, // by an edge
		{1, 5, true},
		{5, 1, false},
		{1, 7, false},
		{7, 1, false},
		{8, 8, false}, // in no edge
		{8, 1, false},
		{1, 8, false},
		{8, 9, false},
		{-1, -1, false},
		{math.MinInt, math.MaxInt, false},
	} {
		if got := g.Leads(c.a, c.b); got != c.want {
			t.Errorf("Leads(%d, %d): %v", c.a, c.b, got)
		}
	}
}

func TestLeadsFollowsWhatComesAndGoes(t *testing.T) {
	w := of(t, 1, 2, 2, 3, 1, 4, 4, 3)
	w.drop(2, 3)
	w.look()
	if !w.graph.Leads(1, 3) {
		t.Error("Leads(1, 3): there is another way")
	}
	w.gone(4)
	w.look(1, 3, 4)
	if w.graph.Leads(1, 3) {
		t.Error("Leads(1, 3): there is no way")
	}
}

func TestRing(t *testing.T) {
	for _, c := range []struct {
		what  string
		edges []int
		rings map[int][]int // of all others it is empty
	}{
		{"no edges", nil, nil},
		{"a row", []int{1, 2, 2, 3, 3, 4}, nil},
		{"two ways to one thing", []int{1, 2, 1, 3, 2, 4, 3, 4}, nil},
		{"an edge to itself", []int{5, 5}, map[int][]int{5: {5}}},
		{"both directions", []int{2, 1, 1, 2}, map[int][]int{1: {1, 2}, 2: {1, 2}}},
		{"a ring, what leads to it, and what it leads to", []int{9, 8, 8, 3, 3, 1, 1, 2, 2, 3, 2, 7, 7, 6},
			map[int][]int{1: {1, 2, 3}, 2: {1, 2, 3}, 3: {1, 2, 3}}},
		{"an edge to itself on the way to a ring", []int{4, 4, 4, 1, 1, 2, 2, 1},
			map[int][]int{4: {4}, 1: {1, 2}, 2: {1, 2}}},
		{"an edge to itself in a ring", []int{2, 2, 2, 1, 1, 2}, map[int][]int{1: {1, 2}, 2: {1, 2}}},
		{"two rings that meet in one thing", []int{3, 1, 1, 3, 3, 5, 5, 4, 4, 3},
			map[int][]int{1: {1, 3, 4, 5}, 3: {1, 3, 4, 5}, 4: {1, 3, 4, 5}, 5: {1, 3, 4, 5}}},
		{"two rings, and an edge from one to the other", []int{1, 9, 9, 1, 2, 8, 8, 2, 1, 2},
			map[int][]int{1: {1, 9}, 9: {1, 9}, 2: {2, 8}, 8: {2, 8}}},
		{"two rings with nothing between", []int{1, 3, 3, 1, 2, 4, 4, 2},
			map[int][]int{1: {1, 3}, 3: {1, 3}, 2: {2, 4}, 4: {2, 4}}},
		{"below 0, 0 and above", []int{0, -7, -7, 7, 7, -1, -1, 0},
			map[int][]int{0: {-7, -1, 0, 7}, -7: {-7, -1, 0, 7}, -1: {-7, -1, 0, 7}, 7: {-7, -1, 0, 7}}},
		{"the least and the greatest", []int{math.MaxInt, math.MinInt, math.MinInt, 0, 0, math.MaxInt},
			map[int][]int{math.MinInt: {math.MinInt, 0, math.MaxInt}, 0: {math.MinInt, 0, math.MaxInt}, math.MaxInt: {math.MinInt, 0, math.MaxInt}}},
	} {
		w := of(t, c.edges...)
		for _, x := range append(c.edges, -2, 0, 10) {
			if got := w.graph.Ring(x); !slices.Equal(got, c.rings[x]) {
				t.Errorf("%s: Ring(%d): %v, not %v", c.what, x, got, c.rings[x])
			}
		}
		w.look(-2, 0, 10)
	}
}

func TestVictim(t *testing.T) {
	g := graph.New[int]()
	for _, e := range []pair{{1, 2}, {2, 1}, {2, 9}, {-3, -4}, {-4, -3}, {-3, 0}, {0, 5}, {6, 6}} {
		g.Add(e.from, e.to)
	}
	for _, c := range []struct {
		a, want int
		ok      bool
	}{
		{1, 2, true}, {2, 2, true}, {-3, -3, true}, {-4, -3, true}, {6, 6, true},
		{9, 0, false}, {0, 0, false}, {5, 0, false}, {7, 0, false}, {-5, 0, false}, {math.MaxInt, 0, false},
	} {
		if got, ok := g.Victim(c.a); got != c.want || ok != c.ok {
			t.Errorf("Victim(%d): %d, %v", c.a, got, ok)
		}
	}
	g.Add(0, -4) // now 0 is the greatest of a ring
	for _, a := range []int{0, -3, -4} {
		if got, ok := g.Victim(a); got != 0 || !ok {
			t.Errorf("Victim(%d), with 0 in its ring: %d, %v", a, got, ok)
		}
	}
}

func TestTheEmptyTextIsAThing(t *testing.T) {
	w := newTwin(t, edge[string]{"", "b"}, edge[string]{"a", ""}, edge[string]{"c", "c"})
	for _, a := range []string{"", "a", "b", "z"} {
		if got, ok := w.graph.Victim(a); got != "" || ok {
			t.Errorf("Victim(%q): %q, %v", a, got, ok)
		}
	}
	w.look("z")
	w.add("", "")
	if got, ok := w.graph.Victim(""); got != "" || !ok {
		t.Errorf("Victim of the empty text: %q, %v", got, ok)
	}
	w.add("b", "a")
	for _, a := range []string{"", "a", "b"} {
		if got := w.graph.Ring(a); !slices.Equal(got, []string{"", "a", "b"}) {
			t.Errorf("Ring(%q): %q", a, got)
		}
		if got, ok := w.graph.Victim(a); got != "b" || !ok {
			t.Errorf("Victim(%q): %q, %v", a, got, ok)
		}
	}
	w.look("z")
	if n := w.gone(""); n != 3 {
		t.Errorf("Gone of the empty text: %d", n)
	}
	w.look("", "a", "b")
}

// Texts rise byte by byte.
func TestTextsRiseByteByByte(t *testing.T) {
	all := texts()
	w := newTwin[string](t)
	for i, x := range all {
		w.add(x, all[(i+7)%len(all)])
	}
	want := slices.Clone(all)
	slices.Sort(want)
	for _, x := range all {
		if got := w.graph.Ring(x); !slices.Equal(got, want) {
			t.Errorf("Ring(%q): %q", x, got)
		}
		if got, ok := w.graph.Victim(x); got != "\xff\xff" || !ok {
			t.Errorf("Victim(%q): %q, %v", x, got, ok)
		}
	}
	w.look("z")
}

// What is told may be written over, and changes nothing.
func TestRingsAreNewMemory(t *testing.T) {
	w := of(t, 1, 2, 2, 3, 3, 1)
	a, b, c := w.graph.Ring(1), w.graph.Ring(1), w.graph.Ring(2)
	scribble(a, -9)
	for _, l := range [][]int{b, c} {
		if !slices.Equal(l, []int{1, 2, 3}) {
			t.Errorf("a ring that was told: %v", l)
		}
	}
	w.look(-9)
	w.gone(2)
	if !slices.Equal(b, []int{1, 2, 3}) {
		t.Errorf("behind a change, a ring that was told: %v", b)
	}
}

func TestAskingChangesNothing(t *testing.T) {
	w := of(t, 1, 2, 2, 1, 3, 1, 2, 4)
	for range 3 {
		w.look(5, 0, -1)
	}
	for _, x := range []int{5, 0, -1} { // what was asked for is no thing of the graph for that
		if n := w.gone(x); n != 0 {
			t.Errorf("Gone(%d): %d", x, n)
		}
	}
}

// 12.1: a nil graph has nothing, and answers no.
func TestNilGraph(t *testing.T) {
	ends(t, "a nil graph", func() {
		var g *graph.Graph[int]
		for _, x := range ints() {
			for _, y := range ints() {
				if g.Add(x, y) || g.Drop(x, y) || g.Leads(x, y) {
					t.Errorf("of %d, %d: yes", x, y)
				}
			}
			if v, ok := g.Victim(x); g.Gone(x) != 0 || len(g.Ring(x)) != 0 || v != 0 || ok {
				t.Errorf("of %d: something", x)
			}
		}
		if n := g.Len(); n != 0 {
			t.Errorf("Len: %d", n)
		}
		var s *graph.Graph[string]
		for _, x := range texts() {
			v, ok := s.Victim(x)
			if s.Add(x, x) || s.Drop(x, x) || s.Leads(x, x) || s.Gone(x) != 0 || len(s.Ring(x)) != 0 || v != "" || ok || s.Len() != 0 {
				t.Errorf("of %q: something", x)
			}
		}
	})
}
