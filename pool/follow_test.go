package pool_test

import (
	"fmt"
	"math"
	"math/rand"
	"slices"
	"testing"

	"flotilla/api"
	"flotilla/page"
	"flotilla/pool"
)

// 15.4, P1: what follows, rows of calls in any order, any arguments and any stores

// What lies in the store never has an LSN above what was stable, whatever is tried.
func TestNoPageLiesAheadOfTheLog(t *testing.T) {
	w := begin(t, 2)
	var stable api.Lsn
	for i := range 100 {
		l := api.Lsn(16 * (i + 1))
		id := i % 2
		w.load(id)
		w.change(id, l)
		if i%3 == 0 {
			stable = l - 16*api.Lsn(i%5)
			w.store.force(max(stable, w.store.stable))
		}
		e := w.clean(id)
		if want := l > w.store.stable; (e == api.ErrWait) != want {
			t.Fatalf("LSN %d, %d is stable: %v", l, w.store.stable, e)
		}
		for id := range 2 {
			if x := w.store.page(t, id); x.Lsn() > w.store.stable {
				t.Fatalf("%d lies there with %d, and %d is stable", id, x.Lsn(), w.store.stable)
			}
		}
	}
}

// A store whose stable LSN falls isn't one of a log; still, nothing is laid above what it tells.
func TestStableThatFalls(t *testing.T) {
	w := begin(t, 1)
	w.load(3)
	w.change(3, 64)
	w.store.force(64)
	w.store.force(32)
	if e := w.clean(3); e != api.ErrWait {
		t.Error("Clean:", e)
	}
}

// Who changes a page without Soil finds it clean: it isn't laid, and taken it is told as clean.
func TestChangedWithoutSoil(t *testing.T) {
	p, _ := pool.New(1, &counted{})
	p.Load(3)
	p.Get(3).Stamp(64)
	if e := p.Clean(3); e != api.OK || len(p.Dirty()) != 0 {
		t.Error("Clean:", e, p.Dirty())
	}
	if x, l, e := p.Take(3); x.Lsn() != 64 || l != 0 || e != api.OK {
		t.Error("Take:", x, l, e)
	}
}

// There are never more pages than frames.
func TestNeverMorePagesThanFrames(t *testing.T) {
	for n := 1; n <= 16; n++ {
		w := begin(t, n)
		for round := range 3 {
			for id := range 16 {
				if round == 1 {
					w.put(made(t, id, 16), 16)
				} else {
					w.load(id)
				}
				if got := len(w.pool.Pages()); got > n || got+w.pool.Room() != n {
					t.Fatalf("%d frames, %d pages, %d free", n, got, w.pool.Room())
				}
			}
			for i := range n {
				w.take((i + round) % 16)
			}
		}
	}
}

// step is one of the calls, by a number.
func step(w *twin, code int) {
	const calls = 7
	id, stamp := code/calls, api.Lsn(16*(code/calls+1))
	switch code % calls {
	case 0:
		w.load(id)
	case 1:
		w.put(made(w.t, id, stamp), stamp)
	case 2:
		w.get(id)
	case 3:
		w.soil(id, stamp)
	case 4:
		w.clean(id)
	case 5:
		w.take(id)
	case 6:
		w.spare()
	}
}

// Every row of few calls, on pools of one and two frames, with two and three pages.
func TestEveryRowOfFewCalls(t *testing.T) {
	ends(t, "every row of few calls", func() {
		for _, c := range []struct{ frames, codes, long int }{{1, 14, 4}, {2, 14, 4}, {2, 21, 3}, {3, 21, 3}} {
			all := 1
			for range c.long {
				all *= c.codes
			}
			for row := range all {
				w := begin(t, c.frames)
				w.store.force(16) // the page 0 may be laid, others not
				for n, rest := 0, row; n < c.long; n, rest = n+1, rest/c.codes {
					step(w, rest%c.codes)
				}
			}
		}
	})
}

// life is a row of calls in any order, over a store that may refuse.
type life struct {
	*twin
	from *rand.Rand
	lsn  api.Lsn
	seen map[string]int
	out  []*page.Page // taken, and put again some time
}

func (l *life) did(what string, e api.Errno) { l.seen[fmt.Sprint(what, " ", e)]++ }

// storm makes the store refuse, or no more.
func (l *life) storm() {
	errors := []api.Errno{api.OK, api.OK, api.OK, api.ErrSum, api.ErrFull}
	l.store.noFetch = errors[l.from.Intn(len(errors))]
	l.store.noLay = errors[l.from.Intn(len(errors))]
}

// id is that of a page, or nearly.
func (l *life) id() int {
	if pages := l.pages(); len(pages) > 0 && l.from.Intn(2) == 0 {
		return pages[l.from.Intn(len(pages))]
	}
	return l.from.Intn(18) - 1
}

// back puts something: what was taken, a page as it lies there, or another one.
func (l *life) back() {
	rec := l.lsn
	x := made(l.t, l.from.Intn(16), l.lsn)
	switch n := l.from.Intn(8); {
	case n == 0:
		x = nil
	case n == 1:
		x = l.store.page(l.t, x.ID())
		rec = 0
	case n == 2: // clean, says who puts it, and may be wrong
		rec = 0
	case n < 7 && len(l.out) > 0:
		i := l.from.Intn(len(l.out))
		x = l.out[i]
		l.out = slices.Delete(l.out, i, i+1)
	}
	l.did("Put", l.put(x, rec))
}

func (l *life) step() {
	l.t.Helper()
	l.lsn += api.Lsn(l.from.Intn(3))
	id := l.id()
	switch l.from.Intn(12) {
	case 0, 1:
		l.did("Load", l.load(id))
	case 2:
		l.back()
	case 3:
		l.get(id)
	case 4, 5:
		l.change(id, l.lsn)
	case 6:
		l.did("Soil", l.soil(id, l.lsn))
	case 7, 8:
		l.did("Clean", l.clean(id))
	case 9:
		x, _, e := l.take(id)
		if e == api.OK {
			l.out = append(l.out, x)
		}
		l.did("Take", e)
	case 10:
		_, e := l.spare()
		l.did("Spare", e)
	case 11:
		if l.storm(); l.from.Intn(2) == 0 {
			l.store.force(max(l.store.stable, l.lsn-api.Lsn(l.from.Intn(int(min(l.lsn, 20))+1))))
		}
	}
}

func TestLongRowsOfCalls(t *testing.T) {
	ends(t, "long rows of calls", func() {
		seen := map[string]int{}
		for round := range 64 {
			l := &life{twin: begin(t, 1+round%16), from: rand.New(rand.NewSource(int64(round))), seen: seen}
			for range 1500 {
				l.step()
			}
		}
		for what, errors := range map[string][]api.Errno{
			"Load":  {api.OK, api.ErrArg, api.ErrTwice, api.ErrBusy, api.ErrSum, api.ErrFull},
			"Put":   {api.OK, api.ErrArg, api.ErrTwice, api.ErrBusy},
			"Soil":  {api.OK, api.ErrNone},
			"Clean": {api.OK, api.ErrNone, api.ErrWait, api.ErrSum, api.ErrFull},
			"Take":  {api.OK, api.ErrNone},
			"Spare": {api.OK, api.ErrBusy},
		} {
			for _, e := range errors {
				if n := seen[fmt.Sprint(what, " ", e)]; n < 20 {
					t.Errorf("%s told %v only %d times", what, e, n)
				}
			}
		}
	})
}

// P1: each call at each number.
func TestAnyArguments(t *testing.T) {
	ends(t, "any arguments", func() {
		for _, frames := range []int{1, 2, 16} {
			w := begin(t, frames)
			w.store.force(1 << 40)
			for _, id := range ints() {
				w.load(id)
				for _, l := range lsns() {
					w.soil(id, l)
					w.get(id)
					w.clean(id)
					w.spare()
				}
				w.clean(id)
				w.take(id)
				w.take(id)
			}
		}
	})
}

// broken is a store whose calls panic, where they are told to.
type broken struct {
	shelf
	fetch, lay, stable bool
}

func (s *broken) Fetch(id int) (*page.Page, api.Errno) {
	if s.fetch {
		panic("Fetch")
	}
	return s.shelf.Fetch(id)
}

func (s *broken) Lay(x *page.Page) api.Errno {
	if s.lay {
		var none *shelf
		none.stable = 1
	}
	return s.shelf.Lay(x)
}

func (s *broken) Stable() api.Lsn {
	if s.stable {
		panic(nil)
	}
	return s.shelf.Stable()
}

// P1: a store that panics is refused, and nothing changes.
func TestStoreThatPanics(t *testing.T) {
	ends(t, "a store that panics", func() {
		s := &broken{fetch: true, lay: true, stable: true}
		p, e := pool.New(1, s)
		if e != api.OK {
			t.Fatal("New:", e)
		}
		if e := p.Load(3); e != api.ErrArg || p.Has(3) || p.Room() != 1 {
			t.Error("Load:", e)
		}
		s.fetch = false
		if e := p.Load(3); e != api.OK {
			t.Error("Load behind it:", e)
		}
		p.Soil(3, 16)
		for range 2 {
			if e := p.Clean(3); e != api.ErrArg || !slices.Equal(p.Dirty(), []api.Dirty{{Page: 3, Rec: 16}}) {
				t.Error("Clean:", e, p.Dirty())
			}
			s.stable = false // Lay still panics
		}
		s.lay = false
		if e := p.Clean(3); e != api.OK || len(p.Dirty()) != 0 {
			t.Error("Clean behind it:", e, p.Dirty())
		}
	})
}

// P1: a nil pointer in the interface, where the calls do need what it points to, is such a store.
func TestNilPointerThatPanics(t *testing.T) {
	ends(t, "a nil pointer", func() {
		var s *shelf
		p, e := pool.New(2, s)
		if e != api.OK {
			t.Fatal("New:", e)
		}
		for _, id := range ints() {
			p.Load(id)
			p.Clean(id)
			p.Take(id)
		}
		if e := p.Load(3); e != api.ErrArg || p.Room() != 2 {
			t.Error("Load:", e)
		}
		if p.Put(made(t, 3, 16), 16) != api.OK || p.Clean(3) != api.ErrArg || len(p.Dirty()) != 1 {
			t.Error("Put, Clean:", p.Dirty())
		}
	})
}

// meddler is a store that calls the pool, which calls it.
type meddler struct {
	shelf
	pool *pool.Pool
	t    testing.TB
	id   int
}

func (s *meddler) Fetch(id int) (*page.Page, api.Errno) {
	s.pool.Put(made(s.t, s.id, 0), 16)
	return s.shelf.Fetch(id)
}

// A frame that is taken while Fetch goes on is taken; there are never more pages than frames.
func TestStoreThatPutsPages(t *testing.T) {
	ends(t, "a store that puts pages", func() {
		for id, want := range map[int]api.Errno{3: api.ErrTwice, 4: api.ErrBusy} {
			s := &meddler{t: t, id: id}
			s.pool, _ = pool.New(1, s)
			if e := s.pool.Load(3); e != want || !slices.Equal(s.pool.Pages(), []int{id}) || s.pool.Room() != 0 {
				t.Errorf("Load(3), while %d comes: %v, %v", id, e, s.pool.Pages())
			}
			if !slices.Equal(s.pool.Dirty(), []api.Dirty{{Page: id, Rec: 16}}) {
				t.Error("Dirty:", s.pool.Dirty())
			}
		}
	})
}

// Great numbers of records are held against each other as they are, without a sign.
func TestGreatLsns(t *testing.T) {
	w := begin(t, 1)
	w.put(made(t, 1, math.MaxUint64), math.MaxUint64)
	w.store.force(math.MaxUint64 - 1)
	if e := w.clean(1); e != api.ErrWait {
		t.Error("one above:", e)
	}
	w.store.force(math.MaxUint64)
	if e := w.clean(1); e != api.OK {
		t.Error("at it:", e)
	}
}
