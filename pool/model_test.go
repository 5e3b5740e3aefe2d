package pool_test

import (
	"bytes"
	"math"
	"slices"
	"testing"
	"time"

	"flotilla/api"
	"flotilla/page"
	"flotilla/pool"
)

// shelf is a store in memory, of pages as bytes. It refuses what it is told to refuse.
type shelf struct {
	lies    [16][]byte // nil: noughts
	stable  api.Lsn
	highest api.Lsn // the greatest that was ever stable
	noFetch api.Errno
	noLay   api.Errno
	told    *page.Page // what Fetch told last
	fetched []int      // what Fetch was asked for
	laid    []int      // what Lay was handed
	ahead   bool       // Lay was handed a page ahead of the log
}

func (s *shelf) Fetch(id int) (*page.Page, api.Errno) {
	s.fetched = append(s.fetched, id)
	if s.noFetch != api.OK {
		x, _ := page.New(id) // who is told an error has nothing to do with what is told beside it
		return x, s.noFetch
	}
	x, e := page.Parse(id, s.bytes(id))
	s.told = x
	return x, e
}

func (s *shelf) Lay(x *page.Page) api.Errno {
	s.laid = append(s.laid, x.ID())
	s.ahead = s.ahead || x.Lsn() > s.stable
	if s.noLay != api.OK {
		return s.noLay
	}
	s.lies[x.ID()] = x.Bytes()
	return api.OK
}

func (s *shelf) Stable() api.Lsn { return s.stable }

func (s *shelf) bytes(id int) []byte {
	if s.lies[id] == nil {
		return make([]byte, 512)
	}
	return slices.Clone(s.lies[id])
}

// page is a page as it lies there.
func (s *shelf) page(t testing.TB, id int) *page.Page {
	t.Helper()
	x, e := page.Parse(id, s.bytes(id))
	if e != api.OK {
		t.Fatalf("what lies there of %d is no page: %v", id, e)
	}
	return x
}

func (s *shelf) force(l api.Lsn) {
	s.stable = l
	s.highest = max(s.highest, l)
}

// place is a frame by the document's words.
type place struct {
	id    int // -1: without a page
	page  *page.Page
	dirty bool
	rec   api.Lsn
	used  bool
	sure  bool // who said that it is clean was right
}

// twin does each call to a pool and to the document's words, and holds what is told against one another.
type twin struct {
	t     testing.TB
	pool  *pool.Pool
	store *shelf
	rows  []place
	hand  int
}

func begin(t testing.TB, frames int) *twin {
	t.Helper()
	s := &shelf{}
	p, e := pool.New(frames, s)
	if e != api.OK || p == nil {
		t.Fatalf("New(%d): %v, %v", frames, p, e)
	}
	w := &twin{t: t, pool: p, store: s}
	for range frames {
		w.rows = append(w.rows, place{id: -1})
	}
	w.look("New")
	return w
}

// find is the frame of a page; -1, if none has it.
func (w *twin) find(id int) int {
	if id < 0 {
		return -1
	}
	return slices.IndexFunc(w.rows, func(r place) bool { return r.id == id })
}

// free is the first frame without a page; -1, if each has one.
func (w *twin) free() int {
	return slices.IndexFunc(w.rows, func(r place) bool { return r.id < 0 })
}

func (w *twin) want(what string, id int, got, want api.Errno) {
	w.t.Helper()
	if got != want {
		w.t.Fatalf("%s(%d): %v, not %v; %v", what, id, got, want, w.rows)
	}
	w.look(what)
}

// enter is what is answered to one who brings a page.
func (w *twin) enter(id int) api.Errno {
	switch {
	case id < 0, id > 15:
		return api.ErrArg
	case w.find(id) >= 0:
		return api.ErrTwice
	case w.free() < 0:
		return api.ErrBusy
	}
	return api.OK
}

func (w *twin) load(id int) api.Errno {
	w.t.Helper()
	want, asked := w.enter(id), []int(nil)
	if want == api.OK {
		want, asked = w.store.noFetch, []int{id}
	}
	w.store.fetched = nil
	got := w.pool.Load(id)
	if !slices.Equal(w.store.fetched, asked) {
		w.t.Fatalf("Load(%d): fetched is %v", id, w.store.fetched)
	}
	if want == api.OK {
		w.rows[w.free()] = place{id: id, page: w.store.told, used: true, sure: true}
	}
	w.want("Load", id, got, want)
	return want
}

func (w *twin) put(x *page.Page, rec api.Lsn) api.Errno {
	w.t.Helper()
	if x == nil {
		w.want("Put of nil", -1, w.pool.Put(nil, rec), api.ErrArg)
		return api.ErrArg
	}
	want := w.enter(x.ID())
	if want == api.OK {
		honest := rec == 0 && bytes.Equal(x.Bytes(), w.store.page(w.t, x.ID()).Bytes())
		w.rows[w.free()] = place{id: x.ID(), page: x, dirty: rec != 0, rec: rec, used: true, sure: honest}
	}
	w.want("Put", x.ID(), w.pool.Put(x, rec), want)
	return want
}

func (w *twin) get(id int) *page.Page {
	w.t.Helper()
	var want *page.Page
	if i := w.find(id); i >= 0 {
		w.rows[i].used = true
		want = w.rows[i].page
	}
	if got := w.pool.Get(id); got != want {
		w.t.Fatalf("Get(%d): %p, not %p", id, got, want)
	}
	w.look("Get")
	return want
}

func (w *twin) soil(id int, l api.Lsn) api.Errno {
	w.t.Helper()
	want := api.ErrNone
	if i := w.find(id); i >= 0 {
		want = api.OK
		if r := &w.rows[i]; !r.dirty {
			r.dirty, r.rec = true, l
		}
	}
	w.want("Soil", id, w.pool.Soil(id, l), want)
	return want
}

func (w *twin) clean(id int) api.Errno {
	w.t.Helper()
	i, want, lays := w.find(id), api.OK, 0
	switch {
	case i < 0:
		want = api.ErrNone
	case !w.rows[i].dirty:
	case w.rows[i].page.Lsn() > w.store.stable:
		want = api.ErrWait
	default:
		want, lays = w.store.noLay, 1
	}
	if lays == 1 && want == api.OK {
		w.rows[i].dirty, w.rows[i].rec, w.rows[i].sure = false, 0, true
	}
	w.store.laid = nil
	got := w.pool.Clean(id)
	if len(w.store.laid) != lays || lays == 1 && w.store.laid[0] != id {
		w.t.Fatalf("Clean(%d): laid is %v", id, w.store.laid)
	}
	w.want("Clean", id, got, want)
	return want
}

func (w *twin) take(id int) (*page.Page, api.Lsn, api.Errno) {
	w.t.Helper()
	var x *page.Page
	var rec api.Lsn
	want := api.ErrNone
	if i := w.find(id); i >= 0 {
		x, rec, want = w.rows[i].page, w.rows[i].rec, api.OK
		w.rows[i] = place{id: -1}
	}
	got, l, e := w.pool.Take(id)
	if got != x || l != rec {
		w.t.Fatalf("Take(%d): %p, %d, %v, not %p, %d, %v", id, got, l, e, x, rec, want)
	}
	w.want("Take", id, e, want)
	return x, rec, want
}

// turned is the numbers of the frames with a page, from the hand on.
func (w *twin) turned() []int {
	var all []int
	for i := range w.rows {
		if at := (w.hand + i) % len(w.rows); w.rows[at].id >= 0 {
			all = append(all, at)
		}
	}
	return all
}

// spare tells without going round: the first that isn't used, or, if there is none, the first, by when none is used any more.
func (w *twin) spare() (int, api.Errno) {
	w.t.Helper()
	id, want := 0, api.ErrBusy
	if order := w.turned(); len(order) > 0 {
		k := slices.IndexFunc(order, func(i int) bool { return !w.rows[i].used })
		told, passed := order[0], order
		if k >= 0 {
			told, passed = order[k], order[:k]
		}
		for _, i := range passed {
			w.rows[i].used = false
		}
		w.hand = (told + 1) % len(w.rows)
		id, want = w.rows[told].id, api.OK
	}
	got, e := w.pool.Spare()
	if got != id {
		w.t.Fatalf("Spare: %d, %v, not %d, %v; %v", got, e, id, want, w.rows)
	}
	w.want("Spare", id, e, want)
	return id, want
}

// change gives a page that is there a record's change, as the log's owner does it: it is stamped, and soiled.
func (w *twin) change(id int, l api.Lsn) {
	w.t.Helper()
	x := w.get(id)
	if x == nil {
		return
	}
	if x.Insert("k", "v") != api.OK && x.Delete("k") != api.OK {
		w.t.Fatal("a page takes no change")
	}
	x.Stamp(l)
	w.soil(id, l)
}

// pages and dirty are what the document's words tell, by rising id.
func (w *twin) pages() (ids []int) {
	for id := range 16 {
		if w.find(id) >= 0 {
			ids = append(ids, id)
		}
	}
	return ids
}

func (w *twin) dirty() (rows []api.Dirty) {
	for _, id := range w.pages() {
		if r := w.rows[w.find(id)]; r.dirty {
			rows = append(rows, api.Dirty{Page: id, Rec: r.rec})
		}
	}
	return rows
}

// look asks all that changes nothing, and 15.4.
func (w *twin) look(what string) {
	w.t.Helper()
	for range 2 { // what was told is written over, and asked for again
		pages, dirty := w.pool.Pages(), w.pool.Dirty()
		if !slices.Equal(pages, w.pages()) || !slices.Equal(dirty, w.dirty()) {
			w.t.Fatalf("behind %s: Pages %v, Dirty %v, not %v, %v", what, pages, dirty, w.pages(), w.dirty())
		}
		scribble(pages, dirty)
	}
	if room := w.pool.Room(); room != len(w.rows)-len(w.pages()) {
		w.t.Fatalf("behind %s: Room %d; %v", what, room, w.rows)
	}
	for id := -1; id <= 16; id++ {
		if has := w.pool.Has(id); has != (w.find(id) >= 0) {
			w.t.Fatalf("behind %s: Has(%d): %v", what, id, has)
		}
	}
	if w.store.ahead {
		w.t.Fatalf("behind %s: Lay was handed a page ahead of the log", what)
	}
	for _, r := range w.rows {
		if r.id >= 0 && !r.dirty && r.sure && !bytes.Equal(r.page.Bytes(), w.store.page(w.t, r.id).Bytes()) {
			w.t.Fatalf("behind %s: %d is clean, and the store lacks something of it", what, r.id)
		}
	}
	for id, b := range w.store.lies {
		if b != nil && w.store.page(w.t, id).Lsn() > w.store.highest {
			w.t.Fatalf("behind %s: %d lies in the store ahead of the log", what, id)
		}
	}
}

// scribble writes over lists, with the room behind them.
func scribble(pages []int, dirty []api.Dirty) {
	pages, dirty = pages[:cap(pages)], dirty[:cap(dirty)]
	for i := range pages {
		pages[i] = -77
	}
	for i := range dirty {
		dirty[i] = api.Dirty{Page: -77, Rec: 77}
	}
}

// made is a page with an LSN and something on it.
func made(t testing.TB, id int, l api.Lsn) *page.Page {
	t.Helper()
	x, e := page.New(id)
	if e != api.OK || x.Insert("a", "x") != api.OK {
		t.Fatalf("a page %d: %v", id, e)
	}
	x.Stamp(l)
	return x
}

// ints are numbers at which something might go wrong; of those from 0 to 15 there are pages.
func ints() []int {
	return []int{math.MinInt, math.MinInt + 1, math.MinInt32 - 1, math.MinInt32, -1 << 16, -257, -256, -17, -16, -15, -2, -1, 0, 1, 2, 3, 14, 15, 16, 17, 18, 31, 32, 255, 256, 257, 259,
		1 << 16, 1<<16 + 3, math.MaxInt32, math.MaxInt32 + 1, 1 << 32, 1<<32 + 1, 1<<32 + 3, math.MaxInt - 1, math.MaxInt}
}

// lsns are such numbers of records.
func lsns() []api.Lsn {
	return []api.Lsn{0, 1, 15, 16, 17, 31, 32, 33, 1 << 31, 1<<31 - 1, 1 << 32, 1 << 60, 1<<60 + 7, 1<<63 - 1, 1 << 63, 1<<63 + 1, math.MaxUint64 - 1, math.MaxUint64}
}

// ends asks that something comes to its end, without a panic.
func ends(t *testing.T, what string, do func()) {
	t.Helper()
	over := make(chan any, 1)
	go func() {
		defer func() { over <- recover() }()
		do()
	}()
	select {
	case p := <-over:
		if p != nil {
			t.Fatalf("%s: a panic: %v", what, p)
		}
	case <-time.After(5 * time.Minute):
		t.Fatalf("%s: no end", what)
	}
}
