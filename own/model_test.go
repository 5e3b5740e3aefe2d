package own_test

import (
	"math"
	"slices"
	"testing"
	"time"

	"flotilla/api"
	"flotilla/own"
)

func give(page, to int, fast bool) api.Order {
	return api.Order{Kind: api.OrderGive, Page: page, To: to, Fast: fast}
}

func call(page, from, to int, fast bool) api.Order {
	return api.Order{Kind: api.OrderCall, Page: page, From: from, To: to, Fast: fast}
}

// ask is one who waits for a page.
type ask struct{ page, inst int }

// words is a book by the document's words: what is whose, and one list of all who wait, in the order in which they asked.
type words struct {
	pages  int
	fast   []bool
	owner  map[int]int // of the pages that are an instance's
	lost   map[int]bool
	called map[int]bool
	asks   []ask
}

func newWords(pages int, fast []bool) *words {
	return &words{pages: pages, fast: slices.Clone(fast), owner: map[int]int{}, lost: map[int]bool{}, called: map[int]bool{}}
}

func (w *words) isPage(page int) bool { return 0 <= page && page < w.pages }

func isInst(inst int) bool { return 1 <= inst && inst <= 8 }

func (w *words) isFast(page int) bool {
	return w.isPage(page) && page < len(w.fast) && w.fast[page]
}

func (w *words) waits(page int) []int {
	var all []int
	for _, a := range w.asks {
		if a.page == page {
			all = append(all, a.inst)
		}
	}
	return all
}

func (w *words) has(inst int) []int {
	var all []int
	for page := range w.pages {
		if o, is := w.owner[page]; is && o == inst {
			all = append(all, page)
		}
	}
	return all
}

// call tells that the page is called.
func (w *words) call(page int) api.Order {
	w.called[page] = true
	return call(page, w.owner[page], w.waits(page)[0], w.isFast(page))
}

// serve is the chapter's 'Serving a page'.
func (w *words) serve(page int) []api.Order {
	_, is := w.owner[page]
	row := w.waits(page)
	if is || w.lost[page] || len(row) == 0 {
		return nil
	}
	w.owner[page] = row[0]
	w.asks = slices.DeleteFunc(w.asks, func(a ask) bool { return a == ask{page, row[0]} })
	told := []api.Order{give(page, row[0], w.isFast(page))}
	if len(row) > 1 {
		told = append(told, w.call(page))
	}
	return told
}

func (w *words) need(page, inst int) ([]api.Order, api.Errno) {
	if !w.isPage(page) || !isInst(inst) {
		return nil, api.ErrArg
	}
	o, is := w.owner[page]
	if is && o == inst || slices.Contains(w.asks, ask{page, inst}) {
		return nil, api.ErrTwice
	}
	w.asks = append(w.asks, ask{page, inst})
	if is && !w.called[page] {
		return []api.Order{w.call(page)}, api.OK
	}
	return w.serve(page), api.OK
}

func (w *words) back(page, inst int) ([]api.Order, api.Errno) {
	if !w.isPage(page) || !isInst(inst) {
		return nil, api.ErrArg
	}
	if o, is := w.owner[page]; !is || o != inst {
		return nil, api.ErrState
	}
	delete(w.owner, page)
	delete(w.called, page)
	return w.serve(page), api.OK
}

func (w *words) fail(inst int) []int {
	if !isInst(inst) {
		return nil
	}
	w.asks = slices.DeleteFunc(w.asks, func(a ask) bool { return a.inst == inst })
	all := w.has(inst)
	for _, page := range all {
		delete(w.owner, page)
		delete(w.called, page)
		w.lost[page] = true
	}
	return all
}

func (w *words) mend(page int) ([]api.Order, api.Errno) {
	if !w.isPage(page) {
		return nil, api.ErrArg
	}
	if !w.lost[page] {
		return nil, api.ErrState
	}
	delete(w.lost, page)
	return w.serve(page), api.OK
}

// twin is a book, and beside it what it must have.
type twin struct {
	t     testing.TB
	book  *own.Book
	words *words
}

func newTwin(t testing.TB, pages int, fast ...bool) *twin {
	t.Helper()
	b, e := own.New(pages, fast)
	if e != api.OK || b == nil {
		t.Fatalf("New(%d, %v): %v, %v", pages, fast, b, e)
	}
	return &twin{t, b, newWords(pages, fast)}
}

// orders holds what a call told against what it must tell, writes over it, and is what it must tell.
func (w *twin) orders(what string, page, inst int, l []api.Order, e api.Errno, want []api.Order, f api.Errno) ([]api.Order, api.Errno) {
	w.t.Helper()
	if e != f || !slices.Equal(l, want) {
		w.t.Fatalf("%s(%d, %d): %v, %v, not %v, %v; then there is %v", what, page, inst, l, e, want, f, w.words)
	}
	scribble(l, api.Order{Kind: -9, Page: -9, From: -9, To: -9, Fast: true})
	return want, f
}

func (w *twin) need(page, inst int) ([]api.Order, api.Errno) {
	w.t.Helper()
	want, f := w.words.need(page, inst)
	l, e := w.book.Need(page, inst)
	return w.orders("Need", page, inst, l, e, want, f)
}

func (w *twin) back(page, inst int) ([]api.Order, api.Errno) {
	w.t.Helper()
	want, f := w.words.back(page, inst)
	l, e := w.book.Back(page, inst)
	return w.orders("Back", page, inst, l, e, want, f)
}

func (w *twin) mend(page int) ([]api.Order, api.Errno) {
	w.t.Helper()
	want, f := w.words.mend(page)
	l, e := w.book.Mend(page)
	return w.orders("Mend", page, 0, l, e, want, f)
}

func (w *twin) fail(inst int) []int {
	w.t.Helper()
	want := w.words.fail(inst)
	w.ints("Fail", inst, w.book.Fail(inst), want)
	return want
}

// ints holds a list that was told against what it must be, and writes over it.
func (w *twin) ints(what string, of int, l, want []int) {
	w.t.Helper()
	if !slices.Equal(l, want) {
		w.t.Fatalf("%s(%d): %v, not %v; there is %v", what, of, l, want, w.words)
	}
	scribble(l, -7)
}

// needs, backs, mends and fails ask that a call tells just this, and look at all behind it.
func (w *twin) needs(page, inst int, want ...api.Order) {
	w.t.Helper()
	w.just("Need", want, api.OK, func() ([]api.Order, api.Errno) { return w.need(page, inst) })
}

func (w *twin) backs(page, inst int, want ...api.Order) {
	w.t.Helper()
	w.just("Back", want, api.OK, func() ([]api.Order, api.Errno) { return w.back(page, inst) })
}

func (w *twin) mends(page int, want ...api.Order) {
	w.t.Helper()
	w.just("Mend", want, api.OK, func() ([]api.Order, api.Errno) { return w.mend(page) })
}

func (w *twin) fails(inst int, want ...int) {
	w.t.Helper()
	if l := w.fail(inst); !slices.Equal(l, want) {
		w.t.Fatalf("Fail(%d): %v, not %v", inst, l, want)
	}
	w.look()
}

// noNeed, noBack and noMend ask that a call is refused, and changes nothing.
func (w *twin) noNeed(page, inst int, e api.Errno) {
	w.t.Helper()
	w.just("Need", nil, e, func() ([]api.Order, api.Errno) { return w.need(page, inst) })
}

func (w *twin) noBack(page, inst int, e api.Errno) {
	w.t.Helper()
	w.just("Back", nil, e, func() ([]api.Order, api.Errno) { return w.back(page, inst) })
}

func (w *twin) noMend(page int, e api.Errno) {
	w.t.Helper()
	w.just("Mend", nil, e, func() ([]api.Order, api.Errno) { return w.mend(page) })
}

func (w *twin) just(what string, want []api.Order, e api.Errno, do func() ([]api.Order, api.Errno)) {
	w.t.Helper()
	if l, f := do(); f != e || !slices.Equal(l, want) {
		w.t.Fatalf("%s: %v, %v, not %v, %v", what, l, f, want, e)
	}
	w.look()
}

// look asks everything, twice, of pages and instances that aren't there too, and writes over what is told.
func (w *twin) look() {
	w.t.Helper()
	for range 2 {
		for page := -2; page <= w.words.pages+1; page++ {
			w.lookAt(page)
		}
		for inst := -1; inst <= 9; inst++ {
			w.lookFrom(inst)
		}
	}
}

func (w *twin) lookAt(page int) {
	w.t.Helper()
	if o := w.book.Owner(page); o != w.words.owner[page] {
		w.t.Fatalf("Owner(%d): %d, not %d", page, o, w.words.owner[page])
	}
	if l := w.book.Lost(page); l != w.words.lost[page] {
		w.t.Fatalf("Lost(%d): %v", page, l)
	}
	if f := w.book.Fast(page); f != w.words.isFast(page) {
		w.t.Fatalf("Fast(%d): %v", page, f)
	}
	w.ints("Waits", page, w.book.Waits(page), w.words.waits(page))
}

func (w *twin) lookFrom(inst int) {
	w.t.Helper()
	w.ints("Has", inst, w.book.Has(inst), w.words.has(inst))
}

// scribble writes over a list, with the room behind it.
func scribble[T any](l []T, x T) {
	l = l[:cap(l)]
	for i := range l {
		l[i] = x
	}
}

// ints are numbers at which something might go wrong.
func ints() []int {
	return []int{math.MinInt, math.MinInt + 1, math.MinInt32 - 1, math.MinInt32, -1 << 32, -257, -256, -17, -16, -9, -8, -2, -1, 0, 1, 2, 7, 8, 9, 10, 14, 15, 16, 17, 18, 31, 32, 255, 256, 257, 264,
		math.MaxInt32, math.MaxInt32 + 1, 1 << 32, 1<<32 + 1, 1<<62 + 1, math.MaxInt - 1, math.MaxInt}
}

// ends asks that something comes to its end, without a panic.
func ends(t *testing.T, what string, do func()) {
	t.Helper()
	over := make(chan any, 1)
	go func() {
		defer func() { over <- recover() }()
		do()
	}()
	select {
	case p := <-over:
		if p != nil {
			t.Fatalf("%s: a panic: %v", what, p)
		}
	case <-time.After(5 * time.Minute):
		t.Fatalf("%s: no end", what)
	}
}
