package own_test

import (
	"slices"
	"testing"

	"flotilla/api"
	"flotilla/own"
)

// 20.4: Owner, Lost, Waits, Fast, Has, and a nil book

func TestOfPagesThatAreNotThere(t *testing.T) {
	fast := make([]bool, 16)
	for i := range fast {
		fast[i] = true
	}
	for n := 1; n <= 16; n++ {
		w := newTwin(t, n, fast[:n]...)
		for page := range n {
			w.needs(page, 1, give(page, 1, true))
			w.needs(page, 2, call(page, 1, 2, true))
		}
		for range 2 {
			for _, page := range append(wrong(n), n, n+1) {
				if w.book.Owner(page) != 0 || w.book.Lost(page) || len(w.book.Waits(page)) != 0 || w.book.Fast(page) {
					t.Fatalf("of %d pages, the page %d: %d, %v, %v, %v", n, page, w.book.Owner(page), w.book.Lost(page), w.book.Waits(page), w.book.Fast(page))
				}
			}
			w.fail(1) // then they are lost
		}
	}
}

func TestHasOfInstancesThatAreNotThere(t *testing.T) {
	w := busy(t) // with pages that are nobody's, and lost ones
	for _, inst := range nobodies() {
		if l := w.book.Has(inst); len(l) != 0 {
			t.Fatalf("Has(%d): %v", inst, l)
		}
	}
}

// What each call tells of pages of each kind.
func TestOfPagesOfEachKind(t *testing.T) {
	w := busy(t)
	for page, want := range []struct {
		owner int
		lost  bool
		waits []int
		fast  bool
	}{
		{0, false, nil, true},
		{1, false, nil, false},
		{2, false, []int{3}, true},
		{0, true, nil, false},
		{0, true, []int{4, 5}, false},
		{7, false, []int{8, 1}, false},
	} {
		o, l, r, f := w.book.Owner(page), w.book.Lost(page), w.book.Waits(page), w.book.Fast(page)
		if o != want.owner || l != want.lost || !slices.Equal(r, want.waits) || f != want.fast {
			t.Errorf("the page %d: %d, %v, %v, %v, not %v", page, o, l, r, f, want)
		}
	}
	for inst, want := range [][]int{nil, {1}, {2}, nil, nil, nil, nil, {5}, nil} {
		if l := w.book.Has(inst); !slices.Equal(l, want) {
			t.Errorf("Has(%d): %v, not %v", inst, l, want)
		}
	}
}

// Waits is in the order in which they asked, whatever their numbers.
func TestWaitsInTheirOrder(t *testing.T) {
	for _, order := range [][]int{{1, 2, 3, 4, 5, 6, 7}, {7, 6, 5, 4, 3, 2, 1}, {4, 7, 1, 6, 2, 5, 3}, {2, 1, 4, 3, 6, 5, 7}} {
		w := newTwin(t, 1)
		w.needs(0, 8, give(0, 8, false))
		for i, inst := range order {
			w.need(0, inst)
			if l := w.book.Waits(0); !slices.Equal(l, order[:i+1]) {
				t.Fatalf("%v asked: Waits: %v", order[:i+1], l)
			}
		}
		has := 8
		for i, inst := range order {
			w.back(0, has)
			if l := w.book.Waits(0); w.book.Owner(0) != inst || !slices.Equal(l, order[i+1:]) {
				t.Fatalf("%v asked: owner %d, Waits %v", order, w.book.Owner(0), l)
			}
			has = inst
		}
	}
}

// Has is rising, whatever the order in which it got them; what one waits for, and what one has lost, it hasn't.
func TestHasRising(t *testing.T) {
	w := newTwin(t, 16)
	for _, page := range []int{7, 3, 15, 0, 8, 12} {
		w.needs(page, 6, give(page, 6, false))
	}
	w.needs(5, 2, give(5, 2, false))
	w.needs(5, 6, call(5, 2, 6, false))
	w.backs(8, 6)
	if l := w.book.Has(6); !slices.Equal(l, []int{0, 3, 7, 12, 15}) {
		t.Fatal("Has:", l)
	}
	w.backs(5, 2, give(5, 6, false))
	if l := w.book.Has(6); !slices.Equal(l, []int{0, 3, 5, 7, 12, 15}) {
		t.Fatal("Has:", l)
	}
	w.fail(6)
	if l := w.book.Has(6); len(l) != 0 {
		t.Fatal("Has behind Fail:", l)
	}
}

// That a page is fast stays so, whatever happens to it.
func TestFastStays(t *testing.T) {
	for page, fast := range []bool{false, true, false} {
		w := newTwin(t, 3, false, true)
		w.needs(page, 1, give(page, 1, fast))
		w.needs(page, 2, call(page, 1, 2, fast))
		w.needs(page, 3)
		w.backs(page, 1, give(page, 2, fast), call(page, 2, 3, fast))
		w.fails(2, page)
		w.needs(page, 2)
		w.mends(page, give(page, 3, fast), call(page, 3, 2, fast))
		w.backs(page, 3, give(page, 2, fast))
	}
}

func TestNilBook(t *testing.T) {
	var b *own.Book
	ends(t, "a nil book", func() {
		for _, page := range ints() {
			for _, inst := range ints() {
				if l, e := b.Need(page, inst); len(l) != 0 || e != api.ErrArg {
					t.Fatalf("Need(%d, %d): %v, %v", page, inst, l, e)
				}
				if l, e := b.Back(page, inst); len(l) != 0 || e != api.ErrArg {
					t.Fatalf("Back(%d, %d): %v, %v", page, inst, l, e)
				}
			}
			if l, e := b.Mend(page); len(l) != 0 || e != api.ErrArg {
				t.Fatalf("Mend(%d): %v, %v", page, l, e)
			}
			if b.Owner(page) != 0 || b.Lost(page) || len(b.Waits(page)) != 0 || b.Fast(page) {
				t.Fatalf("of the page %d there is something", page)
			}
		}
		for _, inst := range ints() {
			if l, m := b.Fail(inst), b.Has(inst); len(l) != 0 || len(m) != 0 {
				t.Fatalf("Fail, Has of %d: %v, %v", inst, l, m)
			}
		}
	})
}
