package own_test

import (
	"fmt"
	"math/rand"
	"slices"
	"testing"

	"flotilla/api"
	"flotilla/own"
)

// 20.5, P1: what follows, every row of few calls, every book of few instances, long rows of calls

// calls is every call of a book of so many pages and instances that does something.
func calls(pages int, insts []int) []func(w *twin) {
	var all []func(w *twin)
	for page := range pages {
		for _, inst := range insts {
			all = append(all, func(w *twin) { w.need(page, inst) }, func(w *twin) { w.back(page, inst) })
		}
		all = append(all, func(w *twin) { w.mend(page) })
	}
	for _, inst := range insts {
		all = append(all, func(w *twin) { w.fail(inst) })
	}
	return all
}

// everyRow does every row of so many calls, each on a new book, and looks at all that is there then.
func everyRow(t *testing.T, pages int, insts []int, long int) {
	t.Helper()
	all := calls(pages, insts)
	code := make([]int, long)
	for {
		w := newTwin(t, pages, false, true)
		for _, c := range code {
			all[c](w)
		}
		w.look()
		at := 0
		for at < long && code[at] == len(all)-1 {
			code[at] = 0
			at++
		}
		if at == long {
			return
		}
		code[at]++
	}
}

func TestEveryRowOfFewCalls(t *testing.T) {
	ends(t, "every row of few calls", func() {
		everyRow(t, 2, []int{1}, 5)
		everyRow(t, 2, []int{1, 8}, 4)
		everyRow(t, 2, []int{2, 7, 4}, 3)
		everyRow(t, 3, []int{3, 5, 1, 8}, 2)
	})
}

// key tells books apart by what the words have of them.
func (w *words) key() string {
	s := ""
	for page := range w.pages {
		s += fmt.Sprint(w.owner[page], w.lost[page], w.called[page], w.waits(page))
	}
	return s
}

// everyBook comes to every book of so many pages and instances, and does every call to each; told is how many books there are.
func everyBook(t *testing.T, pages int, insts []int) int {
	t.Helper()
	all := calls(pages, insts)
	come := func(row []int) *twin {
		w := newTwin(t, pages, true)
		for _, c := range row {
			all[c](w)
		}
		return w
	}
	seen := map[string]bool{newTwin(t, pages).words.key(): true}
	rows := [][]int{nil}
	for i := 0; i < len(rows); i++ {
		for c := range all {
			w := come(rows[i])
			all[c](w)
			w.look()
			if k := w.words.key(); !seen[k] {
				seen[k] = true
				rows = append(rows, append(slices.Clone(rows[i]), c))
			}
		}
		wrongCalls(come(rows[i]), insts[0])
	}
	return len(rows)
}

// wrongCalls does calls with pages and instances that aren't there; they change nothing.
func wrongCalls(w *twin, inst int) {
	w.t.Helper()
	for _, page := range []int{-1, w.words.pages} {
		w.need(page, inst)
		w.back(page, inst)
		w.mend(page)
	}
	for _, none := range []int{-1, 0, 9} {
		for page := range w.words.pages {
			w.need(page, none)
			w.back(page, none)
		}
		w.fail(none)
	}
	w.look()
}

// Of one page there are, with n instances: one that is nobody's; lost ones, as many as there are rows of some of the n; and n times those of an instance: not called with nobody who waits, or called with each row of some of the others (of nobody too, as who waits may crash).
func TestEveryBookOfFewInstances(t *testing.T) {
	ends(t, "every book of few instances", func() {
		for _, x := range []struct {
			pages int
			insts []int
			books int
		}{
			{1, []int{1}, 1 + 2 + 1},
			{1, []int{8, 1}, 1 + 5 + 2*(1+2)},
			{1, []int{3, 1, 2}, 1 + 16 + 3*(1+5)},
			{1, []int{5, 8, 6, 7}, 1 + 65 + 4*(1+16)},
			{1, []int{1, 2, 3, 4, 5}, 1 + 326 + 5*(1+65)},
			{2, []int{2, 1}, 0},
			{2, []int{1, 4, 8}, 0},
			{3, []int{1, 2}, 0},
		} {
			n := everyBook(t, x.pages, x.insts)
			if x.books > 0 && n != x.books {
				t.Errorf("%d pages, the instances %v: %d books, not %d", x.pages, x.insts, n, x.books)
			}
		}
	})
}

// watch is a book that is known by what it tells alone: who was given what, who was called, and who asked when.
type watch struct {
	*twin
	turn   int
	asked  map[ask]int // those who wait: when they asked
	has    map[int]int
	called map[int]bool
	lost   map[int]bool
	seen   map[string]int
}

func newWatch(t testing.TB, pages int, fast []bool, seen map[string]int) *watch {
	t.Helper()
	return &watch{twin: newTwin(t, pages, fast...), asked: map[ask]int{}, has: map[int]int{}, called: map[int]bool{}, lost: map[int]bool{}, seen: seen}
}

// first is the one of those who wait for a page who asked first; 0, if nobody waits.
func (w *watch) first(page int) int {
	first := 0
	for a, turn := range w.asked {
		if a.page == page && (first == 0 || turn < w.asked[ask{page, first}]) {
			first = a.inst
		}
	}
	return first
}

// obey does what orders tell of a page, and asks that it may be told.
func (w *watch) obey(page int, l []api.Order) {
	w.t.Helper()
	for _, o := range l {
		_, had := w.has[page]
		if o.Page != page || o.Fast != w.book.Fast(page) || o.To != w.first(page) || o.To == 0 {
			w.t.Fatalf("the page %d, for which %d asked first: told is %v", page, w.first(page), o)
		}
		switch o.Kind {
		case api.OrderGive:
			if had || w.lost[page] || o.From != 0 {
				w.t.Fatalf("given while it is %d's, or lost: %v", w.has[page], o)
			}
			w.has[page] = o.To
			delete(w.asked, ask{page, o.To})
		case api.OrderCall:
			if !had || w.called[page] || o.From != w.has[page] || o.From == o.To {
				w.t.Fatalf("called while it is %d's (called: %v): %v", w.has[page], w.called[page], o)
			}
			w.called[page] = true
		default:
			w.t.Fatal("an order of no kind:", o)
		}
		w.seen[fmt.Sprint("order ", o.Kind)]++
	}
	w.holds()
}

// holds asks that each page has one owner at most, and that whoever waits can come to what it waits for.
func (w *watch) holds() {
	w.t.Helper()
	owners := map[int]int{}
	for inst := 1; inst <= 8; inst++ {
		for _, page := range w.book.Has(inst) {
			if _, two := owners[page]; two {
				w.t.Fatalf("the page %d has two owners", page)
			}
			owners[page] = inst
		}
	}
	for page := range w.words.pages {
		if owners[page] != w.has[page] || w.book.Owner(page) != w.has[page] || w.book.Lost(page) != w.lost[page] {
			w.t.Fatalf("the page %d: %d's, %d's by Owner, given to %d", page, owners[page], w.book.Owner(page), w.has[page])
		}
		if w.first(page) != 0 && !w.lost[page] && !w.called[page] {
			w.t.Fatalf("%d waits for the page %d, and nobody is called", w.first(page), page)
		}
	}
}

func (w *watch) need(page, inst int) {
	w.t.Helper()
	l, e := w.twin.need(page, inst)
	w.seen[fmt.Sprint("Need ", e)]++
	if e != api.OK {
		return
	}
	w.turn++
	w.asked[ask{page, inst}] = w.turn
	w.obey(page, l)
}

func (w *watch) back(page, inst int) {
	w.t.Helper()
	l, e := w.twin.back(page, inst)
	w.seen[fmt.Sprint("Back ", e)]++
	if e != api.OK {
		return
	}
	if !w.called[page] {
		w.seen["Back without a call"]++
	}
	delete(w.has, page)
	delete(w.called, page)
	w.obey(page, l)
}

func (w *watch) mend(page int) {
	w.t.Helper()
	l, e := w.twin.mend(page)
	w.seen[fmt.Sprint("Mend ", e)]++
	if e != api.OK {
		return
	}
	delete(w.lost, page)
	w.obey(page, l)
}

func (w *watch) fail(inst int) {
	w.t.Helper()
	for a := range w.asked {
		if a.inst == inst {
			delete(w.asked, a)
			w.seen["Fail of one that waits"]++
		}
	}
	for _, page := range w.twin.fail(inst) {
		if w.has[page] != inst {
			w.t.Fatalf("Fail(%d) tells the page %d, that is %d's", inst, page, w.has[page])
		}
		if w.called[page] {
			w.seen["Fail of one that was called"]++
		}
		delete(w.has, page)
		delete(w.called, page)
		w.lost[page] = true
	}
	w.holds()
}

// some does a call; fails is how many of a thousand calls are crashes, wild ones are those with anything as an argument.
func (w *watch) some(r *rand.Rand, fails, wild int) {
	w.t.Helper()
	page, inst := r.Intn(w.words.pages), 1+r.Intn(8)
	if r.Intn(1000) < wild {
		all := ints()
		page, inst = all[r.Intn(len(all))], all[r.Intn(len(all))]
	}
	if r.Intn(1000) < fails {
		w.fail(inst)
		return
	}
	switch k := r.Intn(10); {
	case k < 5:
		w.need(page, inst)
	case k < 7:
		w.back(page, w.book.Owner(page))
	case k < 8:
		w.back(page, inst)
	default:
		w.mend(page)
	}
}

// due is what is still to be done: the pages whose owners are called, and those that are lost.
func (w *watch) due() []int {
	var all []int
	for page := range w.words.pages {
		if w.called[page] || w.lost[page] {
			all = append(all, page)
		}
	}
	return all
}

// calm lets all who are called hand over, and what is lost be mended, in any order, till nothing is due: by then nobody waits.
func (w *watch) calm(r *rand.Rand) {
	w.t.Helper()
	steps := len(w.asked) + w.words.pages // each lets one who waits have it, or is the last of its page
	for all := w.due(); len(all) > 0; all = w.due() {
		if steps == 0 {
			w.t.Fatal("it goes on and on, with", w.words)
		}
		steps--
		if page := all[r.Intn(len(all))]; w.lost[page] {
			w.mend(page)
		} else {
			w.back(page, w.has[page])
		}
	}
	if len(w.asked) > 0 || len(w.words.asks) > 0 {
		w.t.Fatal("nothing is due, and there wait", w.asked)
	}
	w.look()
}

func TestLongRowsOfCalls(t *testing.T) {
	ends(t, "long rows of calls", func() {
		r := rand.New(rand.NewSource(20))
		seen := map[string]int{}
		for round := range 160 {
			pages := 1 + round%16
			fast := make([]bool, r.Intn(pages+1))
			for i := range fast {
				fast[i] = r.Intn(2) == 0
			}
			w := newWatch(t, pages, fast, seen)
			for part := range 4 {
				for i := range 250 {
					w.some(r, []int{0, 20, 100, 300}[(part+round/16)%4], 50*(round%3))
					if i%50 == 0 {
						w.look()
					}
				}
				w.look()
				w.calm(r)
			}
		}
		for _, what := range []string{"order 1", "order 2", "Need 0", "Need 1", "Need 9", "Back 0", "Back 1", "Back 10", "Mend 0", "Mend 1", "Mend 10",
			"Back without a call", "Fail of one that waits", "Fail of one that was called"} {
			if seen[what] < 100 {
				t.Errorf("too few %s: %v", what, seen)
			}
		}
	})
}

// All ask for all, in any order, and hand over whenever they are called: each has each page as often as it asked for it.
func TestEverybodyGetsEverything(t *testing.T) {
	r := rand.New(rand.NewSource(21))
	for range 20 {
		w := newWatch(t, 16, nil, map[string]int{})
		order := r.Perm(16 * 8)
		for _, k := range order {
			w.need(k%16, 1+k/16)
		}
		had := map[ask]int{}
		note := func() {
			for page := range 16 {
				had[ask{page, w.book.Owner(page)}]++
			}
		}
		note()
		for range 7 { // each page goes on by one
			for _, page := range w.due() {
				w.back(page, w.has[page])
			}
			note()
		}
		for page := range 16 {
			for inst := 1; inst <= 8; inst++ {
				if had[ask{page, inst}] != 1 {
					t.Fatalf("%d had the page %d %d times", inst, page, had[ask{page, inst}])
				}
			}
		}
		if len(w.due()) != 0 {
			t.Fatal("due is", w.due())
		}
	}
}

// One who asks anew whenever it has handed over doesn't keep another one from it.
func TestNobodyIsPassedBy(t *testing.T) {
	w := newWatch(t, 1, nil, map[string]int{})
	w.need(0, 1)
	for round := range 50 {
		late := 2 + round%7
		w.need(0, late)
		for turns := 0; w.has[0] != late; turns++ {
			if turns > 8 {
				t.Fatalf("%d waits while the page goes by", late)
			}
			has := w.has[0]
			w.back(0, has)
			w.need(0, has)
		}
		w.back(0, late)
	}
}

// P1: no call panics, and none goes on for ever, at any argument, whatever is there.
func TestAnyArguments(t *testing.T) {
	ends(t, "any arguments", func() {
		for _, n := range []int{1, 2, 8, 15, 16} {
			w := newTwin(t, n, true)
			for range 3 {
				for _, page := range ints() {
					for _, inst := range ints() {
						w.need(page, inst)
						w.back(inst, page)
						w.need(inst, page)
						w.back(page, inst)
						w.need(page, 9-inst)
					}
					w.lookAt(page)
					w.lookFrom(page)
					w.fail(page)
					w.mend(page)
				}
				w.look()
			}
		}
	})
}

// P1: very long rows that say what is fast.
func TestNewWithMuchSaidFast(t *testing.T) {
	ends(t, "much said fast", func() {
		for _, said := range []int{17, 256, 257, 1 << 16, 1 << 24} {
			fast := make([]bool, said)
			for _, n := range ints() {
				if b, e := own.New(n, fast); b != nil || e != api.ErrArg {
					t.Fatalf("New(%d) with %d said fast: %v, %v", n, said, b, e)
				}
			}
		}
	})
}
