package net_test

import (
	"math/rand"
	"testing"

	"flotilla/api"
)

// 11.4, P1: long rows of calls, held against the document's words

// calls is every call of a net of n instances that does something, numbered.
func calls(n int) []func(w *twin, i int) {
	var all []func(w *twin, i int)
	for _, b := range rowsOf(n) {
		all = append(all,
			func(w *twin, i int) { w.send(b.from, b.to, full(i)) },
			func(w *twin, i int) { w.take(b.from, b.to) })
	}
	for place := 1; place <= n; place++ {
		all = append(all, func(w *twin, i int) { w.cut(place) })
	}
	return all
}

// everyRow does every row of so many calls, each on a new net, and looks at all that stands there then.
func everyRow(t *testing.T, n, long int) {
	t.Helper()
	all := calls(n)
	code := make([]int, long)
	for {
		w := newTwin(t, n)
		for i, c := range code {
			all[c](w, i)
		}
		w.look()
		at := 0
		for at < long && code[at] == len(all)-1 {
			code[at] = 0
			at++
		}
		if at == long {
			return
		}
		code[at]++
	}
}

func TestEveryRowOfFewCalls(t *testing.T) {
	ends(t, "every row of few calls", func() {
		everyRow(t, 1, 6)
		everyRow(t, 2, 4)
		everyRow(t, 3, 3)
	})
}

// someCalls does calls in any order; sends is how many of ten calls at a row send.
func someCalls(r *rand.Rand, w *twin, steps, sends int, seen map[string]int) {
	place := func() int { return r.Intn(w.n+3) - 1 }
	few := rowsOf(w.n)[:1+r.Intn(2*w.n)] // not always all rows, so that some are filled
	for i := range steps {
		b := few[r.Intn(len(few))]
		if r.Intn(10) == 0 {
			b = between{place(), place()}
		}
		switch k := r.Intn(1000); {
		case k < 2:
			if w.cut(place()) > 0 {
				seen["cut"]++
			}
		case k < 30:
			scribbleRow(w.peek(b.from, b.to))
		case k%10 < sends:
			m := full(i)
			if w.send(b.from, b.to, m) == api.ErrFull {
				seen["full"]++
			}
			scribble(m)
		default:
			if m, ok := w.take(b.from, b.to); ok {
				scribble(m)
				seen["taken"]++
			} else {
				seen["empty"]++
			}
		}
	}
	w.look()
}

func TestLongRowsOfCalls(t *testing.T) {
	ends(t, "long rows of calls", func() {
		r := rand.New(rand.NewSource(11))
		seen := map[string]int{}
		for round := range 60 {
			w := newTwin(t, 1+round%8)
			for part := range 4 { // more is sent than taken, then less
				someCalls(r, w, 1000, []int{9, 3, 7, 5}[(part+round)%4], seen)
			}
			w.drain()
		}
		for _, what := range []string{"cut", "full", "taken", "empty"} {
			if seen[what] < 50 {
				t.Errorf("too few %s: %v", what, seen)
			}
		}
	})
}

// What is taken from a row was sent there, in that order, each once, but for what was cut: by numbers that rise through all rows.
func TestEachIsTakenOnceInOrder(t *testing.T) {
	r := rand.New(rand.NewSource(12))
	const n = 4
	x := made(t, n)
	sent, gone := map[between]map[int]bool{}, map[between]int{} // numbers that were sent and not taken; the last one that was taken or cut
	for _, b := range rowsOf(n) {
		sent[b] = map[int]bool{}
	}
	for i := 1; i < 50000; i++ {
		b := rowsOf(n)[r.Intn(2*n)]
		switch k := r.Intn(2000); {
		case k == 0:
			place := 1 + r.Intn(n)
			for _, b := range []between{{place, 0}, {0, place}} {
				sent[b], gone[b] = map[int]bool{}, i
			}
			x.Cut(place)
		case k < 1040:
			if x.Send(b.from, b.to, api.Msg{Kind: i, Page: b.from, To: b.to}) == api.OK {
				sent[b][i] = true
			}
		default:
			m, ok := x.Take(b.from, b.to)
			if ok != (len(sent[b]) > 0) {
				t.Fatalf("Take(%d, %d): %v, with %d there", b.from, b.to, ok, len(sent[b]))
			}
			if !ok {
				continue
			}
			if !sent[b][m.Kind] || m.Kind <= gone[b] || m.Page != b.from || m.To != b.to {
				t.Fatalf("Take(%d, %d): %v behind %d", b.from, b.to, m, gone[b])
			}
			delete(sent[b], m.Kind)
			gone[b] = m.Kind
		}
	}
	left := 0
	for _, b := range rowsOf(n) {
		left += len(sent[b])
	}
	if x.Sum() != left {
		t.Fatalf("Sum: %d, and %d weren't taken", x.Sum(), left)
	}
}

// What happens in one row doesn't touch another one.
func TestRowsDoNotTouchOneAnother(t *testing.T) {
	for _, b := range rowsOf(3) {
		w := newTwin(t, 3)
		for i, other := range rowsOf(3) {
			w.fill(other, 5+i, i*1000)
		}
		for range 20 {
			w.fill(b, 256, 7000)
			w.peek(b.from, b.to)
			for range 256 {
				w.take(b.from, b.to)
			}
			w.take(b.from, b.to)
		}
		w.look()
		w.drain()
	}
}

// P1: no call panics, and none waits for ever, at any argument.
func TestAnyArguments(t *testing.T) {
	ends(t, "any arguments", func() {
		places := append([]int{0, 1, 2, 3, 4, 5, 6, 7, 8}, far()...)
		odd := oddMessages()
		for n := 1; n <= 8; n++ {
			w := newTwin(t, n)
			for round := range 3 {
				for _, from := range places {
					for _, to := range places {
						w.send(from, to, odd[(round+from&7+to&7)%len(odd)])
						w.take(to, from)
						w.peek(from, to)
						w.peek(to, from)
					}
				}
				for _, place := range places {
					w.cut(place)
				}
			}
			if got := w.net.Sum(); got != 0 {
				t.Errorf("of %d instances: %d are left", n, got)
			}
		}
	})
}
