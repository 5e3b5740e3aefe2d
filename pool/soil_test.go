package pool_test

import (
	"bytes"
	"math"
	"slices"
	"testing"

	"flotilla/api"
	"flotilla/page"
	"flotilla/pool"
)

// 15.2: Soil, Clean, Take

func wantDirty(t *testing.T, w *twin, what string, want ...api.Dirty) {
	t.Helper()
	if got := w.pool.Dirty(); !slices.Equal(got, want) {
		t.Errorf("%s: Dirty %v, not %v", what, got, want)
	}
}

func TestSoilOfACleanPageAndOfADirtyOne(t *testing.T) {
	for _, l := range lsns() {
		w := begin(t, 2)
		w.load(3)
		if e := w.soil(3, l); e != api.OK {
			t.Errorf("Soil(3, %d): %v", l, e)
		}
		wantDirty(t, w, "soiled once", api.Dirty{Page: 3, Rec: l})
		for _, more := range lsns() { // lesser ones and greater ones
			if e := w.soil(3, more); e != api.OK {
				t.Errorf("Soil(3, %d) of a dirty one: %v", more, e)
			}
			wantDirty(t, w, "soiled again", api.Dirty{Page: 3, Rec: l})
		}
	}
}

func TestSoilOfWhatWasPut(t *testing.T) {
	w := begin(t, 2)
	w.put(made(t, 1, 48), 33)
	w.put(made(t, 2, 48), 0)
	w.soil(1, 17)
	w.soil(2, 18)
	wantDirty(t, w, "one dirty, one clean", api.Dirty{Page: 1, Rec: 33}, api.Dirty{Page: 2, Rec: 18})
}

// Soil changes nothing of the page, and asks nothing of the store.
func TestSoilLeavesThePage(t *testing.T) {
	w := begin(t, 1)
	x := made(t, 1, 48)
	was := x.Bytes()
	w.put(x, 0)
	w.store.noFetch, w.store.noLay = api.ErrSum, api.ErrSum
	w.soil(1, 64)
	w.soil(1, 80)
	if w.get(1) != x || !bytes.Equal(x.Bytes(), was) || len(w.store.laid) != 0 || len(w.store.fetched) != 0 {
		t.Error("Soil does more than it should")
	}
}

// A page that is dirty with the LSN 0 is dirty: it is told and laid.
func TestSoilWithNought(t *testing.T) {
	w := begin(t, 1)
	w.load(3)
	w.get(3).Insert("a", "x")
	w.soil(3, 0)
	wantDirty(t, w, "soiled with 0", api.Dirty{Page: 3})
	w.clean(3)
	wantDirty(t, w, "cleaned")
	if v, ok := w.store.page(t, 3).Get("a"); !ok || v != "x" {
		t.Error("what was soiled with 0 isn't laid")
	}
}

func TestCallsOfAPageThatIsntThere(t *testing.T) {
	for _, pages := range [][]int{nil, {3}, {0, 15}} {
		w := begin(t, 2)
		for _, id := range pages {
			w.put(made(t, id, 48), 16)
		}
		w.store.noLay = api.ErrSum
		for _, id := range ints() {
			if slices.Contains(pages, id) {
				continue
			}
			if e := w.soil(id, 16); e != api.ErrNone {
				t.Errorf("Soil(%d): %v", id, e)
			}
			if e := w.clean(id); e != api.ErrNone {
				t.Errorf("Clean(%d): %v", id, e)
			}
			if x, l, e := w.take(id); x != nil || l != 0 || e != api.ErrNone {
				t.Errorf("Take(%d): %v, %d, %v", id, x, l, e)
			}
		}
	}
}

func TestCleanBelowAtAndAboveWhatIsStable(t *testing.T) {
	for _, stable := range lsns() {
		for _, l := range lsns() {
			w := begin(t, 1)
			x := made(t, 6, l)
			w.put(x, 1)
			w.store.force(stable)
			e := w.clean(6)
			if l > stable {
				if e != api.ErrWait || w.store.lies[6] != nil {
					t.Errorf("LSN %d, %d is stable: %v", l, stable, e)
				}
				wantDirty(t, w, "ErrWait", api.Dirty{Page: 6, Rec: 1})
				continue
			}
			if e != api.OK || !bytes.Equal(w.store.lies[6], x.Bytes()) {
				t.Errorf("LSN %d, %d is stable: %v", l, stable, e)
			}
			wantDirty(t, w, "OK")
		}
	}
}

// It is the page's LSN that counts, not that from which on it is dirty.
func TestCleanAsksForThePagesLsn(t *testing.T) {
	w := begin(t, 2)
	w.put(made(t, 1, 64), 16) // dirty since 16, and since then 64 has come
	w.put(made(t, 2, 16), 64)
	w.store.force(32)
	if e := w.clean(1); e != api.ErrWait {
		t.Error("the page's LSN is above:", e)
	}
	if e := w.clean(2); e != api.OK {
		t.Error("the page's LSN is below:", e)
	}
	w.get(1).Stamp(32)
	if e := w.clean(1); e != api.OK {
		t.Error("the page's LSN now is at it:", e)
	}
	w.change(2, 33)
	if e := w.clean(2); e != api.ErrWait {
		t.Error("the page's LSN now is above:", e)
	}
	w.store.force(33)
	if e := w.clean(2); e != api.OK {
		t.Error("the log was forced:", e)
	}
}

func TestErrorsOfCleanInTheirOrder(t *testing.T) {
	w := begin(t, 2)
	w.store.noLay = api.ErrFull
	w.store.force(16)
	if e := w.clean(3); e != api.ErrNone {
		t.Error("it isn't there, Lay refuses:", e)
	}
	w.put(made(t, 3, 32), 0)
	if e := w.clean(3); e != api.OK {
		t.Error("clean, above what is stable, Lay refuses:", e)
	}
	w.soil(3, 32)
	if e := w.clean(3); e != api.ErrWait {
		t.Error("above what is stable, Lay refuses:", e)
	}
	w.store.force(32)
	if e := w.clean(3); e != api.ErrFull {
		t.Error("Lay refuses:", e)
	}
	w.store.noLay = api.OK
	if e := w.clean(3); e != api.OK {
		t.Error("nothing is wrong:", e)
	}
}

// What Lay refuses with is told, whatever it is; the page stays dirty as it was.
func TestCleanTellsLaysError(t *testing.T) {
	w := begin(t, 1)
	w.put(made(t, 3, 16), 48)
	w.store.force(16)
	for _, no := range []api.Errno{api.ErrArg, api.ErrRange, api.ErrFull, api.ErrNone, api.ErrState, api.ErrWait, api.ErrBusy, -1, 99, 1 << 40} {
		w.store.noLay = no
		if e := w.clean(3); e != no || w.store.lies[3] != nil {
			t.Errorf("Lay refuses with %v: %v", no, e)
		}
		wantDirty(t, w, "refused", api.Dirty{Page: 3, Rec: 48})
	}
	if _, l, e := w.take(3); l != 48 || e != api.OK {
		t.Error("Take:", l, e)
	}
}

// A page that was cleaned is clean: it isn't laid once more, and may be soiled with another LSN.
func TestCleanTwice(t *testing.T) {
	w := begin(t, 1)
	w.load(3)
	w.store.force(100)
	w.change(3, 16)
	x := w.get(3)
	w.clean(3)
	w.store.noLay = api.ErrFull
	if e := w.clean(3); e != api.OK || w.get(3) != x {
		t.Error("Clean of a clean one:", e)
	}
	w.change(3, 64)
	wantDirty(t, w, "soiled again", api.Dirty{Page: 3, Rec: 64})
	if _, l, e := w.take(3); l != 64 || e != api.OK {
		t.Error("Take:", l, e)
	}
}

// One page that is cleaned leaves the others dirty, and as they lay.
func TestCleanOfOneAmongOthers(t *testing.T) {
	w := begin(t, 16)
	w.store.force(16)
	for id := range 16 {
		w.put(made(t, id, 16), api.Lsn(id+1))
	}
	for n, id := range []int{7, 0, 15, 3} {
		w.clean(id)
		if len(w.pool.Dirty()) != 15-n {
			t.Error("Dirty:", w.pool.Dirty())
		}
	}
	for id := range 16 {
		if laid := w.store.lies[id] != nil; laid != (id == 7 || id == 0 || id == 15 || id == 3) {
			t.Errorf("%d lies there: %v", id, laid)
		}
	}
}

// counted is a store that counts what it is asked.
type counted struct{ fetch, lay, stable int }

func (s *counted) Fetch(id int) (*page.Page, api.Errno) { s.fetch++; return page.New(id) }
func (s *counted) Lay(*page.Page) api.Errno             { s.lay++; return api.OK }
func (s *counted) Stable() api.Lsn                      { s.stable++; return math.MaxUint64 }

// What is stable is asked for at each Clean, as it may have changed.
func TestStableIsAskedAnew(t *testing.T) {
	s := &counted{}
	p, _ := pool.New(1, s)
	p.Load(3)
	for i := range 3 {
		p.Soil(3, 16)
		if e := p.Clean(3); e != api.OK || s.lay != i+1 || s.stable < i+1 || s.fetch != 1 {
			t.Error("Clean:", e, *s)
		}
	}
}

func TestTakeOfACleanPageAndOfADirtyOne(t *testing.T) {
	for _, rec := range lsns() {
		w := begin(t, 3)
		a, b := made(t, 4, 80), made(t, 8, 80)
		w.put(a, 0)
		w.put(b, rec)
		w.load(12)
		if x, l, e := w.take(4); x != a || l != 0 || e != api.OK {
			t.Errorf("Take of a clean one: %v, %d, %v", x, l, e)
		}
		if x, l, e := w.take(8); x != b || l != rec || e != api.OK {
			t.Errorf("Take of one that is dirty with %d: %v, %d, %v", rec, x, l, e)
		}
		for _, id := range []int{4, 8} {
			if x, l, e := w.take(id); x != nil || l != 0 || e != api.ErrNone {
				t.Errorf("Take(%d) again: %v, %d, %v", id, x, l, e)
			}
		}
		if !slices.Equal(w.pool.Pages(), []int{12}) || w.pool.Room() != 2 {
			t.Error("behind Take:", w.pool.Pages())
		}
	}
}

// Take writes nothing, whatever is stable; and what was dirty isn't, when it comes again clean.
func TestTakeForgets(t *testing.T) {
	w := begin(t, 1)
	w.load(3)
	w.change(3, 64)
	x, l, _ := w.take(3)
	if l != 64 || len(w.store.laid) != 0 || w.store.lies[3] != nil {
		t.Error("Take:", l, w.store.laid)
	}
	w.load(3)
	wantDirty(t, w, "loaded again")
	if w.get(3) == x || w.get(3).Lsn() != 0 {
		t.Error("what was taken is there")
	}
	if _, l, e := w.take(3); l != 0 || e != api.OK {
		t.Error("Take of what was loaded:", l, e)
	}
	w.put(x, 0)
	wantDirty(t, w, "put again")
	w.soil(3, 5)
	wantDirty(t, w, "soiled again", api.Dirty{Page: 3, Rec: 5})
}

// Who took a page has it: what is done to it isn't seen by the pool.
func TestWhatWasTakenIsNotThePools(t *testing.T) {
	w := begin(t, 1)
	w.load(3)
	x, _, _ := w.take(3)
	w.load(3)
	x.Stamp(99)
	if w.get(3).Lsn() != 0 || w.store.page(t, 3).Lsn() != 0 {
		t.Error("what was taken is there")
	}
}
