package pool_test

import (
	"fmt"
	"slices"
	"testing"

	"flotilla/api"
	"flotilla/pool"
)

// 15.3: Spare, Room, Dirty, Pages, a nil pool

// wantSpares asks for what Spare tells in a row.
func wantSpares(t *testing.T, w *twin, what string, want ...int) {
	t.Helper()
	for i, id := range want {
		if got, e := w.spare(); got != id || e != api.OK {
			t.Fatalf("%s: Spare number %d: %d, %v, not %d", what, i, got, e, id)
		}
	}
}

func TestSpareWithoutAPage(t *testing.T) {
	for n := 1; n <= 16; n++ {
		w := begin(t, n)
		for range 3 {
			if id, e := w.spare(); id != 0 || e != api.ErrBusy {
				t.Errorf("%d frames: %d, %v", n, id, e)
			}
		}
		for id := range n {
			w.load(id)
		}
		for id := range n {
			w.take(id)
		}
		if id, e := w.spare(); id != 0 || e != api.ErrBusy {
			t.Errorf("%d frames, all taken: %d, %v", n, id, e)
		}
	}
}

// That there is no page, moves no hand.
func TestSpareThatIsRefusedChangesNothing(t *testing.T) {
	for asked := range 5 {
		w := begin(t, 3)
		for range asked {
			w.spare()
		}
		for id := range 3 {
			w.load(id)
		}
		wantSpares(t, w, fmt.Sprint(asked, " times refused"), 0, 1, 2, 0)
	}
}

func TestSparesInARow(t *testing.T) {
	w := begin(t, 4)
	for _, id := range []int{9, 2, 15, 0} {
		w.load(id)
	}
	wantSpares(t, w, "all used", 9, 2, 15, 0, 9, 2, 15, 0, 9)
	w.get(2)
	w.get(15)
	wantSpares(t, w, "2 and 15 used", 0, 9, 2, 15, 0)
	w.get(9)
	w.get(2)
	w.get(15)
	w.get(0)
	wantSpares(t, w, "all used again", 9, 2)
	w.get(0)
	wantSpares(t, w, "0 used, the hand at 15", 15, 9, 2, 15, 0)
}

// The order is that of the frames, and a page that comes has the first free one.
func TestSparesWhenPagesComeAndGo(t *testing.T) {
	w := begin(t, 3)
	w.load(5)
	w.load(6)
	w.load(7)
	wantSpares(t, w, "all used", 5, 6)
	w.take(5)
	w.take(6)
	w.load(1) // in the frame of 5
	w.load(0) // in that of 6
	wantSpares(t, w, "7 isn't used", 7, 7, 1, 0, 7)
	w.take(0)
	wantSpares(t, w, "a frame without a page", 1, 7, 1, 7)
	w.take(7)
	wantSpares(t, w, "one page alone", 1, 1, 1)
	w.get(1)
	wantSpares(t, w, "one page alone, used", 1, 1)
	w.load(8)
	wantSpares(t, w, "another one behind it, used", 1, 8, 1)
}

// Frames without a page are passed by, wherever they are, and the hand stands one behind what is told.
func TestSpareAmongEmptyFrames(t *testing.T) {
	for n := 1; n <= 16; n++ {
		for at := range n {
			w := begin(t, n)
			for id := range n {
				w.load(id)
			}
			for id := range n {
				if id != at {
					w.take(id)
				}
			}
			wantSpares(t, w, fmt.Sprintf("frame %d of %d", at, n), at, at, at)
			for id := range n {
				w.load(id)
			}
			w.spare()
			w.spare()
		}
	}
}

// every does something with a pool for all ways in which its frames are empty, used and not, and its hand stands.
func every(t *testing.T, n int, do func(w *twin, what string)) {
	all := 1
	for range n {
		all *= 3
	}
	for code := range all {
		for hand := range n {
			w := begin(t, n)
			for id := range n {
				w.load(id)
			}
			for range n + hand { // none is used then, and the hand is where it should be
				w.spare()
			}
			for id, rest := 0, code; id < n; id, rest = id+1, rest/3 {
				switch rest % 3 {
				case 0:
					w.take(id)
				case 1:
					w.get(id)
				}
			}
			do(w, fmt.Sprintf("%d frames, %d, the hand at %d", n, code, hand))
		}
	}
}

func TestSpareOfEveryFewFrames(t *testing.T) {
	for n := 1; n <= 5; n++ {
		every(t, n, func(w *twin, what string) {
			if w.hand >= n {
				t.Fatal("the hand:", what)
			}
			for range 2*n + 1 {
				w.spare()
			}
		})
	}
}

// The page that is told stays there, dirty as it was.
func TestSpareTakesNothing(t *testing.T) {
	w := begin(t, 2)
	x := made(t, 3, 48)
	w.put(x, 33)
	w.put(made(t, 4, 48), 0)
	w.store.noLay, w.store.noFetch = api.ErrFull, api.ErrFull
	for range 5 {
		w.spare()
	}
	if w.get(3) != x || len(w.store.laid) != 0 || len(w.store.fetched) != 0 {
		t.Error("Spare does more than it should")
	}
	wantDirty(t, w, "behind Spare", api.Dirty{Page: 3, Rec: 33})
	if e := w.load(5); e != api.ErrBusy {
		t.Error("Load behind Spare:", e)
	}
}

// As a fleet does it: the page that is told goes, and another one comes.
func TestSpareMakesRoom(t *testing.T) {
	w := begin(t, 3)
	for i := range 200 {
		id := i * 7 % 16
		if w.load(id) != api.ErrBusy {
			continue
		}
		gone, e := w.spare()
		if e != api.OK || gone == id {
			t.Fatal("Spare:", gone, e)
		}
		if _, _, e := w.take(gone); e != api.OK {
			t.Fatal("Take:", e)
		}
		if e := w.load(id); e != api.OK {
			t.Fatal("Load:", e)
		}
	}
}

func TestRoomDirtyPagesStepByStep(t *testing.T) {
	w := begin(t, 3)
	step := func(what string, room int, pages []int, dirty ...api.Dirty) {
		t.Helper()
		if w.pool.Room() != room || !slices.Equal(w.pool.Pages(), pages) || !slices.Equal(w.pool.Dirty(), dirty) {
			t.Errorf("%s: Room %d, Pages %v, Dirty %v", what, w.pool.Room(), w.pool.Pages(), w.pool.Dirty())
		}
	}
	w.store.force(100)
	step("New", 3, nil)
	w.put(made(t, 9, 32), 17)
	step("Put(9, 17)", 2, []int{9}, api.Dirty{Page: 9, Rec: 17})
	w.load(2)
	step("Load(2)", 1, []int{2, 9}, api.Dirty{Page: 9, Rec: 17})
	w.put(made(t, 5, 32), 3)
	step("Put(5, 3)", 0, []int{2, 5, 9}, api.Dirty{Page: 5, Rec: 3}, api.Dirty{Page: 9, Rec: 17})
	w.soil(2, 90)
	step("Soil(2, 90)", 0, []int{2, 5, 9}, api.Dirty{Page: 2, Rec: 90}, api.Dirty{Page: 5, Rec: 3}, api.Dirty{Page: 9, Rec: 17})
	w.clean(5)
	step("Clean(5)", 0, []int{2, 5, 9}, api.Dirty{Page: 2, Rec: 90}, api.Dirty{Page: 9, Rec: 17})
	w.take(9)
	step("Take(9)", 1, []int{2, 5}, api.Dirty{Page: 2, Rec: 90})
	w.load(0)
	step("Load(0)", 0, []int{0, 2, 5}, api.Dirty{Page: 2, Rec: 90})
	w.take(2)
	w.take(5)
	step("Take(2), Take(5)", 2, []int{0})
	w.take(0)
	step("Take(0)", 3, nil)
}

// Dirty and Pages rise, in whatever order the pages came.
func TestListsRise(t *testing.T) {
	for step := 1; step < 16; step += 2 {
		w := begin(t, 16)
		for i := range 16 {
			w.put(made(t, i*step%16, 16), api.Lsn(100-i))
		}
		pages, dirty := w.pool.Pages(), w.pool.Dirty()
		if len(pages) != 16 || len(dirty) != 16 {
			t.Fatal("Pages, Dirty:", pages, dirty)
		}
		for i := range 16 {
			if pages[i] != i || dirty[i].Page != i {
				t.Error("Pages, Dirty:", pages, dirty)
			}
		}
	}
}

// What was told stays as it was, whatever is called behind it, and may be written over.
func TestListsAreNewMemory(t *testing.T) {
	w := begin(t, 4)
	w.put(made(t, 3, 16), 16)
	w.put(made(t, 1, 16), 17)
	a, b, c, d := w.pool.Pages(), w.pool.Pages(), w.pool.Dirty(), w.pool.Dirty()
	scribble(a, c)
	if !slices.Equal(b, []int{1, 3}) || !slices.Equal(d, []api.Dirty{{Page: 1, Rec: 17}, {Page: 3, Rec: 16}}) {
		t.Error("two answers share memory:", b, d)
	}
	w.look("scribble")
	w.take(3)
	w.load(0)
	w.soil(0, 5)
	if !slices.Equal(b, []int{1, 3}) || !slices.Equal(d, []api.Dirty{{Page: 1, Rec: 17}, {Page: 3, Rec: 16}}) {
		t.Error("what was told has changed:", b, d)
	}
}

func TestNilPool(t *testing.T) {
	ends(t, "a nil pool", func() {
		var p *pool.Pool
		for _, id := range ints() {
			if p.Has(id) || p.Get(id) != nil {
				t.Error("Has, Get:", id)
			}
			if e := p.Load(id); e != api.ErrArg {
				t.Errorf("Load(%d): %v", id, e)
			}
			for _, l := range lsns() {
				if e := p.Soil(id, l); e != api.ErrArg {
					t.Errorf("Soil(%d, %d): %v", id, l, e)
				}
			}
			if e := p.Clean(id); e != api.ErrArg {
				t.Errorf("Clean(%d): %v", id, e)
			}
			if x, l, e := p.Take(id); x != nil || l != 0 || e != api.ErrArg {
				t.Errorf("Take(%d): %v, %d, %v", id, x, l, e)
			}
		}
		for _, l := range lsns() {
			if p.Put(nil, l) != api.ErrArg || p.Put(made(t, 3, 16), l) != api.ErrArg {
				t.Error("Put:", l)
			}
		}
		if id, e := p.Spare(); id != 0 || e != api.ErrArg {
			t.Error("Spare:", id, e)
		}
		if p.Room() != 0 || len(p.Dirty()) != 0 || len(p.Pages()) != 0 {
			t.Error("Room, Dirty, Pages:", p.Room(), p.Dirty(), p.Pages())
		}
	})
}
