package pool_test

import (
	"bytes"
	"testing"

	"flotilla/api"
	"flotilla/page"
	"flotilla/pool"
)

// 15.1: New, Has, Get, Load, Put

func TestExample(t *testing.T) {
	p, e := pool.New(1, &shelf{})
	if e != api.OK {
		t.Fatal("New:", e)
	}
	if e := p.Load(3); e != api.OK {
		t.Fatal("Load(3):", e)
	}
	if e := p.Load(4); e != api.ErrBusy {
		t.Fatal("Load(4):", e)
	}
	if x, l, e := p.Take(3); x == nil || x.ID() != 3 || l != 0 || e != api.OK {
		t.Fatal("Take(3):", x, l, e)
	}
	if e := p.Load(4); e != api.OK {
		t.Fatal("Load(4) behind it:", e)
	}
}

func TestNew(t *testing.T) {
	for _, n := range ints() {
		p, e := pool.New(n, &shelf{})
		if n < 1 || n > 16 {
			if p != nil || e != api.ErrArg {
				t.Errorf("New(%d): %v, %v", n, p, e)
			}
			continue
		}
		if e != api.OK || p == nil || p.Room() != n || len(p.Pages()) > 0 || len(p.Dirty()) > 0 {
			t.Errorf("New(%d): %v", n, e)
		}
	}
}

func TestNewWithoutAStore(t *testing.T) {
	for _, n := range ints() {
		if p, e := pool.New(n, nil); p != nil || e != api.ErrArg {
			t.Errorf("New(%d, nil): %v, %v", n, p, e)
		}
		var s pool.Store
		if p, e := pool.New(n, s); p != nil || e != api.ErrArg {
			t.Errorf("New(%d) of a store that is nil: %v, %v", n, p, e)
		}
	}
}

// noughts is a store that needs nothing it would point to.
type noughts struct{}

func (*noughts) Fetch(id int) (*page.Page, api.Errno) { return page.New(id) }
func (*noughts) Lay(*page.Page) api.Errno             { return api.OK }
func (*noughts) Stable() api.Lsn                      { return 32 }

// A nil pointer in the interface is a store: the interface isn't nil.
func TestNewWithANilPointer(t *testing.T) {
	var s *noughts
	p, e := pool.New(2, s)
	if e != api.OK || p == nil {
		t.Fatal("New:", p, e)
	}
	if p.Load(3) != api.OK || p.Soil(3, 16) != api.OK || p.Clean(3) != api.OK || len(p.Dirty()) != 0 || p.Get(3) == nil {
		t.Error("a store that is a nil pointer")
	}
	if p, e := pool.New(17, s); p != nil || e != api.ErrArg {
		t.Error("17 frames:", p, e)
	}
}

// Stores of other kinds than pointers are stores.
type plain struct{ id int }

func (p plain) Fetch(id int) (*page.Page, api.Errno) { return page.New(id) }
func (p plain) Lay(*page.Page) api.Errno             { return api.OK }
func (p plain) Stable() api.Lsn                      { return 0 }

type listed []func()

func (listed) Fetch(id int) (*page.Page, api.Errno) { return page.New(id) }
func (listed) Lay(*page.Page) api.Errno             { return api.OK }
func (listed) Stable() api.Lsn                      { return 0 }

func TestNewWithOtherStores(t *testing.T) {
	for _, s := range []pool.Store{plain{}, plain{7}, &plain{}, listed(nil), listed{nil}, struct{ pool.Store }{plain{}}} {
		p, e := pool.New(1, s)
		if e != api.OK || p.Load(15) != api.OK || !p.Has(15) {
			t.Errorf("a store %T: %v", s, e)
		}
	}
}

// Two pools of one store know nothing of one another.
func TestPoolsOfOneStore(t *testing.T) {
	s := &shelf{}
	a, _ := pool.New(1, s)
	b, _ := pool.New(1, s)
	if a.Load(3) != api.OK || b.Has(3) || b.Room() != 1 || b.Load(3) != api.OK || a.Get(3) == b.Get(3) {
		t.Error("two pools share something")
	}
	a.Get(3).Stamp(5)
	if b.Get(3).Lsn() != 0 || a.Soil(3, 5) != api.OK || len(b.Dirty()) != 0 {
		t.Error("what one has changed, the other one sees")
	}
}

func TestLoadOfAllIDs(t *testing.T) {
	w := begin(t, 16)
	for _, id := range ints() {
		want := api.OK
		if id < 0 || id > 15 {
			want = api.ErrArg
		}
		if e := w.load(id); e != want {
			t.Errorf("Load(%d): %v", id, e)
		}
		if e := w.load(id); want == api.OK && e != api.ErrTwice || want != api.OK && e != want {
			t.Errorf("Load(%d) again: %v", id, e)
		}
	}
}

func TestLoadTellsWhatLiesThere(t *testing.T) {
	w := begin(t, 16)
	for id := range 16 {
		w.store.lies[id] = made(t, id, api.Lsn(id*16)).Bytes()
		w.store.force(16 * 16)
		if e := w.load(id); e != api.OK {
			t.Fatal("Load:", e)
		}
		x := w.get(id)
		if !bytes.Equal(x.Bytes(), w.store.lies[id]) {
			t.Errorf("Load(%d): another page", id)
		}
		if x != w.store.told {
			t.Errorf("Load(%d): not what Fetch told", id)
		}
	}
	if len(w.pool.Dirty()) != 0 {
		t.Error("what was loaded is dirty")
	}
}

// Where several errors apply, the first one is told, and the store is asked only where none does.
func TestErrorsOfLoadInTheirOrder(t *testing.T) {
	w := begin(t, 1)
	w.store.noFetch = api.ErrSum
	for _, id := range []int{-1, 16, 1 << 40} {
		if e := w.load(id); e != api.ErrArg {
			t.Error("no such id, Fetch refuses:", e)
		}
	}
	if e := w.load(3); e != api.ErrSum {
		t.Error("Fetch refuses:", e)
	}
	w.store.noFetch = api.OK
	w.load(3)
	for _, no := range []api.Errno{api.OK, api.ErrSum} {
		w.store.noFetch = no
		for _, id := range []int{-1, 16, 1 << 40} {
			if e := w.load(id); e != api.ErrArg {
				t.Error("no such id, no frame:", e)
			}
		}
		if e := w.load(3); e != api.ErrTwice {
			t.Error("it is there, no frame:", e)
		}
		if e := w.load(4); e != api.ErrBusy {
			t.Error("no frame:", e)
		}
	}
}

// What Fetch refuses with is told, whatever it is; nothing is there.
func TestLoadTellsFetchsError(t *testing.T) {
	w := begin(t, 2)
	for _, no := range []api.Errno{api.ErrArg, api.ErrRange, api.ErrSum, api.ErrForm, api.ErrNone, api.ErrTwice, api.ErrBusy, api.ErrWait, -1, 99, 1 << 40} {
		w.store.noFetch = no
		if e := w.load(5); e != no || w.get(5) != nil || w.pool.Has(5) || w.pool.Room() != 2 {
			t.Errorf("Fetch refuses with %v: %v", no, e)
		}
	}
	w.store.noFetch = api.OK
	if e := w.load(5); e != api.OK {
		t.Error("Load behind it:", e)
	}
}

// odd is a store that tells whatever it is given to tell.
type odd struct {
	page *page.Page
	laid []*page.Page
}

func (s *odd) Fetch(int) (*page.Page, api.Errno) { return s.page, api.OK }
func (s *odd) Lay(x *page.Page) api.Errno        { s.laid = append(s.laid, x); return api.OK }
func (s *odd) Stable() api.Lsn                   { return 0 }

// What Fetch tells is there, by the id that was asked for, though it is no page.
func TestFetchTellsANilPage(t *testing.T) {
	ends(t, "a nil page", func() {
		s := &odd{}
		p, _ := pool.New(1, s)
		if e := p.Load(3); e != api.OK || !p.Has(3) || p.Get(3) != nil || p.Room() != 0 {
			t.Error("Load:", e)
		}
		if e := p.Load(3); e != api.ErrTwice {
			t.Error("Load again:", e)
		}
		if id, e := p.Spare(); id != 3 || e != api.OK {
			t.Error("Spare:", id, e)
		}
		if p.Clean(3) != api.OK || len(s.laid) != 0 || p.Soil(3, 16) != api.OK || len(p.Dirty()) != 1 {
			t.Error("Soil, Clean of a clean one:", p.Dirty(), s.laid)
		}
		if p.Clean(3) != api.OK || len(p.Dirty()) != 0 || len(s.laid) != 1 {
			t.Error("Clean:", p.Dirty(), s.laid)
		}
		if x, l, e := p.Take(3); x != nil || l != 0 || e != api.OK || p.Has(3) || p.Room() != 1 {
			t.Error("Take:", x, l, e)
		}
	})
}

func TestFetchTellsAPageOfAnotherID(t *testing.T) {
	ends(t, "a page of another id", func() {
		s := &odd{page: made(t, 7, 0)}
		p, _ := pool.New(2, s)
		if e := p.Load(3); e != api.OK || !p.Has(3) || p.Has(7) || p.Get(3) != s.page || p.Get(7) != nil {
			t.Error("Load(3):", e, p.Pages())
		}
		if e := p.Load(7); e != api.OK || p.Get(7) != s.page || p.Room() != 0 {
			t.Error("Load(7):", e, p.Pages())
		}
		if x, _, e := p.Take(3); x != s.page || e != api.OK || !p.Has(7) || p.Has(3) {
			t.Error("Take(3):", e, p.Pages())
		}
		if p.Soil(7, 16) != api.OK || p.Clean(7) != api.OK || len(s.laid) != 1 || p.Clean(3) != api.ErrNone {
			t.Error("Soil, Clean:", p.Dirty(), s.laid)
		}
	})
}

func TestPutOfAllIDs(t *testing.T) {
	for _, rec := range lsns() {
		w := begin(t, 16)
		for id := range 16 {
			x := made(t, id, rec)
			was := x.Bytes()
			if e := w.put(x, rec); e != api.OK {
				t.Fatalf("Put(%d, %d): %v", id, rec, e)
			}
			if w.get(id) != x || !bytes.Equal(x.Bytes(), was) {
				t.Errorf("Put(%d, %d): what is there isn't what was put", id, rec)
			}
			if got := len(w.pool.Dirty()) > 0; got != (rec != 0) {
				t.Errorf("Put(%d, %d): dirty: %v", id, rec, got)
			}
		}
	}
}

// The page itself is there: what is done to it by one who put it, who gets it sees.
func TestWhatIsPutIsThereItself(t *testing.T) {
	w := begin(t, 2)
	x := made(t, 9, 16)
	w.put(x, 16)
	if x.Insert("b", "y") != api.OK {
		t.Fatal("Insert")
	}
	if v, ok := w.pool.Get(9).Get("b"); !ok || v != "y" {
		t.Error("a copy is there:", v, ok)
	}
	w.pool.Get(9).Stamp(48)
	if x.Lsn() != 48 {
		t.Error("a copy is told:", x.Lsn())
	}
	if got, l, e := w.take(9); got != x || l != 16 || e != api.OK {
		t.Error("Take:", got, l, e)
	}
	if e := w.put(x, 0); e != api.OK || w.get(9) != x {
		t.Error("Put of what was taken:", e)
	}
}

func TestErrorsOfPutInTheirOrder(t *testing.T) {
	w := begin(t, 1)
	w.store.noFetch, w.store.noLay = api.ErrSum, api.ErrSum // Put asks nothing of the store
	for _, rec := range lsns() {
		if e := w.put(nil, rec); e != api.ErrArg {
			t.Error("nil:", e)
		}
	}
	x := made(t, 0, 0)
	if e := w.put(x, 32); e != api.OK {
		t.Error("Put:", e)
	}
	if e := w.put(nil, 0); e != api.ErrArg { // a nil page's id is 0, which is there
		t.Error("nil, no frame:", e)
	}
	for _, rec := range lsns() {
		if e := w.put(x, rec); e != api.ErrTwice {
			t.Error("the same page, no frame:", e)
		}
		if e := w.put(made(t, 0, 64), rec); e != api.ErrTwice {
			t.Error("another page of the same id, no frame:", e)
		}
		if e := w.put(made(t, 1, 64), rec); e != api.ErrBusy {
			t.Error("no frame:", e)
		}
	}
	if w.get(0) != x {
		t.Error("another page is there")
	}
	if len(w.store.fetched) != 0 || len(w.store.laid) != 0 {
		t.Error("Put asked the store:", w.store.fetched, w.store.laid)
	}
	w = begin(t, 2)
	w.put(x, 0)
	if e := w.put(made(t, 0, 64), 48); e != api.ErrTwice || len(w.pool.Dirty()) != 0 {
		t.Error("another page of the same id:", e, w.pool.Dirty())
	}
}

func TestPutAndLoadMeet(t *testing.T) {
	w := begin(t, 3)
	w.load(4)
	if e := w.put(made(t, 4, 16), 16); e != api.ErrTwice {
		t.Error("Put of what was loaded:", e)
	}
	w.put(made(t, 5, 16), 16)
	if e := w.load(5); e != api.ErrTwice {
		t.Error("Load of what was put:", e)
	}
	w.load(6)
	if e := w.load(7); e != api.ErrBusy {
		t.Error("Load:", e)
	}
	if e := w.put(made(t, 7, 16), 0); e != api.ErrBusy {
		t.Error("Put:", e)
	}
}

func TestGetAndHasOfAnyID(t *testing.T) {
	w := begin(t, 2)
	for _, id := range ints() {
		if w.pool.Has(id) || w.get(id) != nil {
			t.Error("an empty pool has", id)
		}
	}
	w.load(3)
	w.put(made(t, 15, 7), 7)
	for _, id := range ints() {
		if has := w.pool.Has(id); has != (id == 3 || id == 15) {
			t.Errorf("Has(%d): %v", id, has)
		}
		if x := w.get(id); (x != nil) != (id == 3 || id == 15) || x != nil && x.ID() != id {
			t.Errorf("Get(%d): %v", id, x)
		}
	}
	w.take(3)
	if w.pool.Has(3) || w.get(3) != nil || !w.pool.Has(15) {
		t.Error("behind Take")
	}
}

// Get uses a page, so that the hand gives it another turn; Has, Soil and Clean don't.
func TestGetUsesThePage(t *testing.T) {
	for _, c := range []struct {
		what string
		do   func(w *twin)
		want int
	}{
		{"nothing", func(w *twin) {}, 0},
		{"Get(0)", func(w *twin) { w.get(0) }, 1},
		{"Get(1)", func(w *twin) { w.get(1) }, 0},
		{"Get(0), Get(1)", func(w *twin) { w.get(0); w.get(1) }, 2},
		{"Get of all", func(w *twin) { w.get(2); w.get(1); w.get(0) }, 0},
		{"Get(3), which isn't there", func(w *twin) { w.get(3) }, 0},
		{"Has(0)", func(w *twin) { w.pool.Has(0) }, 0},
		{"Soil(0)", func(w *twin) { w.soil(0, 16) }, 0},
		{"Soil(0), Clean(0)", func(w *twin) { w.soil(0, 16); w.clean(0) }, 0},
		{"Load(0), which is there", func(w *twin) { w.load(0) }, 0},
		{"Put(0), which is there", func(w *twin) { w.put(made(t, 0, 0), 0) }, 0},
		{"Room, Dirty, Pages", func(w *twin) { w.look("nothing") }, 0},
		{"Take(0), Load(0)", func(w *twin) { w.take(0); w.load(0) }, 1},
		{"Take(0), Put(0)", func(w *twin) { w.take(0); w.put(made(t, 0, 0), 0) }, 1},
	} {
		w := begin(t, 3)
		for id := range 3 {
			w.load(id)
		}
		for want := range 3 { // none is used any more then, and the hand is at 0 again
			if id, e := w.spare(); id != want || e != api.OK {
				t.Fatal("Spare:", id, e)
			}
		}
		c.do(w)
		if id, e := w.spare(); id != c.want || e != api.OK {
			t.Errorf("Spare behind %s: %d, %v, not %d", c.what, id, e, c.want)
		}
	}
}
