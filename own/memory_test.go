package own_test

import (
	"math/rand"
	"slices"
	"testing"

	"flotilla/api"
	"flotilla/own"
)

// What is handed in, and what is told

// fast stays as it was, with the room behind it, and may be written over behind New.
func TestFastIsNeitherChangedNorKept(t *testing.T) {
	for n := 1; n <= 16; n++ {
		for said := range n + 1 {
			memory := make([]bool, 20)
			for i := range memory {
				memory[i] = i%2 == 0
			}
			was := slices.Clone(memory)
			b, e := own.New(n, memory[:said])
			if e != api.OK {
				t.Fatalf("New(%d) with %d said fast: %v", n, said, e)
			}
			if !slices.Equal(memory, was) {
				t.Fatalf("New(%d) with %d said fast changed what was handed in: %v", n, said, memory)
			}
			for i := range memory {
				memory[i] = !memory[i]
			}
			for page := range n {
				want := page < said && was[page]
				l, _ := b.Need(page, 1)
				if b.Fast(page) != want || len(l) != 1 || l[0].Fast != want {
					t.Fatalf("New(%d) with %d said fast, that are written over: Fast(%d): %v, %v", n, said, page, b.Fast(page), l)
				}
			}
			if !slices.ContainsFunc(memory, func(x bool) bool { return x }) {
				t.Fatal("nothing was written over")
			}
		}
	}
}

// A row that was told is put to, with its room and without: neither the book nor another answer has that.
func TestRowsThatAreAppendedTo(t *testing.T) {
	for many := range 8 {
		w := row(t, many)
		first, second := w.book.Waits(0), w.book.Waits(0)
		for n := range 5 {
			_ = append(first[:min(n, len(first))], 71, 72, 73)
			first = append(first, 74)
		}
		if !slices.Equal(second, w.words.waits(0)) {
			t.Fatal("two answers share memory:", second)
		}
		scribble(first, -1)
		w.look()
		w.need(0, 7)
		scribble(second, -2)
		w.look()
		w.back(0, 8)
		w.look()
	}
}

// Rows of Waits, Has and Fail that are written over at each place.
func TestListsThatAreWrittenOver(t *testing.T) {
	w := busy(t)
	for page := range 6 {
		for i := range w.book.Waits(page) {
			w.book.Waits(page)[i] = 99
			w.look()
		}
	}
	for inst := 1; inst <= 8; inst++ {
		for i := range w.book.Has(inst) {
			w.book.Has(inst)[i] = 99
			w.look()
		}
		l, m := w.fail(inst), w.book.Fail(inst)
		scribble(append(l, m...), 98)
		w.look()
	}
}

// Orders that are written over, and put to.
func TestOrdersThatAreWrittenOver(t *testing.T) {
	b, _ := own.New(1, []bool{true})
	none := api.Order{Kind: -1, Page: -1, From: -1, To: -1}
	var orders [][]api.Order
	keep := func(l []api.Order, e api.Errno) {
		if e != api.OK {
			t.Fatal(e)
		}
		orders = append(orders, l)
	}
	keep(b.Need(0, 1))
	keep(b.Need(0, 2))
	keep(b.Need(0, 3))
	keep(b.Back(0, 1))
	b.Fail(2)
	keep(b.Mend(0))
	want := [][]api.Order{{give(0, 1, true)}, {call(0, 1, 2, true)}, nil, {give(0, 2, true), call(0, 2, 3, true)}, {give(0, 3, true)}}
	for i := range orders {
		if !slices.Equal(orders[i], want[i]) {
			t.Fatalf("told are %v, not %v", orders[i], want[i])
		}
		_ = append(orders[i], none)
		scribble(orders[i], none)
	}
	if b.Owner(0) != 3 || b.Lost(0) || !b.Fast(0) || len(b.Waits(0)) != 0 {
		t.Fatal("the book has changed:", b.Owner(0), b.Lost(0), b.Fast(0), b.Waits(0))
	}
	if l, _ := b.Need(0, 4); !slices.Equal(l, []api.Order{call(0, 3, 4, true)}) {
		t.Fatal("Need:", l)
	}
}

// What was told stays as it was, whatever is called behind it.
func TestWhatWasToldStays(t *testing.T) {
	r := rand.New(rand.NewSource(20))
	var rows, myRows [][]int
	var orders, myOrders [][]api.Order
	keep := func(l []int) {
		rows, myRows = append(rows, l), append(myRows, slices.Clone(l))
	}
	tell := func(l []api.Order, e api.Errno) {
		orders, myOrders = append(orders, l), append(myOrders, slices.Clone(l))
	}
	for range 20 {
		b, _ := own.New(2, []bool{true})
		for range 500 {
			page, inst := r.Intn(2), 1+r.Intn(8)
			switch k := r.Intn(20); {
			case k == 0:
				keep(b.Fail(inst))
			case k < 3:
				tell(b.Mend(page))
			case k < 8:
				tell(b.Back(page, b.Owner(page)))
			default:
				tell(b.Need(page, inst))
			}
			keep(b.Waits(page))
			keep(b.Has(inst))
		}
	}
	for i := range rows {
		if !slices.Equal(rows[i], myRows[i]) {
			t.Fatalf("told was %v, and now it is %v", myRows[i], rows[i])
		}
	}
	for i := range orders {
		if !slices.Equal(orders[i], myOrders[i]) {
			t.Fatalf("told was %v, and now it is %v", myOrders[i], orders[i])
		}
	}
}
