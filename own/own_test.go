package own_test

import (
	"testing"

	"flotilla/api"
	"flotilla/own"
)

// the chapter's example

func TestExample(t *testing.T) {
	w := newTwin(t, 1)
	w.needs(0, 1, give(0, 1, false))
	w.needs(0, 2, call(0, 1, 2, false))
	w.backs(0, 1, give(0, 2, false))
}

// 20.1: New

func TestNewOfWrongNumbers(t *testing.T) {
	rows := [][]bool{nil, {}, {true}, {false}, make([]bool, 16), make([]bool, 17), make([]bool, 257)}
	for _, n := range ints() {
		if n >= 1 && n <= 16 {
			continue
		}
		for _, fast := range rows {
			if b, e := own.New(n, fast); b != nil || e != api.ErrArg {
				t.Fatalf("New(%d) with %d said fast: %v, %v", n, len(fast), b, e)
			}
		}
	}
}

func TestNewHasNobodysPages(t *testing.T) {
	for n := 1; n <= 16; n++ {
		w := newTwin(t, n)
		w.look()
		for page := range n {
			if w.book.Owner(page) != 0 || w.book.Lost(page) || len(w.book.Waits(page)) != 0 || w.book.Fast(page) {
				t.Fatalf("of %d pages, the page %d: owner %d", n, page, w.book.Owner(page))
			}
			w.noMend(page, api.ErrState)
			for inst := 1; inst <= 8; inst++ {
				w.noBack(page, inst, api.ErrState)
			}
			w.needs(page, 1+page%8, give(page, 1+page%8, false))
		}
		w.noNeed(n, 1, api.ErrArg)
		w.noNeed(-1, 1, api.ErrArg)
	}
}

// Of each number of pages, with fast said of none, of fewer, of as many and of more.
func TestNewWithFast(t *testing.T) {
	for n := 1; n <= 16; n++ {
		for said := range 40 {
			for flip := range 3 {
				fast := make([]bool, said)
				for i := range fast {
					fast[i] = (i+flip)%3 > 0
				}
				if said > n {
					if b, e := own.New(n, fast); b != nil || e != api.ErrArg {
						t.Fatalf("New(%d) with %d said fast: %v, %v", n, said, b, e)
					}
					continue
				}
				newTwin(t, n, fast...).look()
			}
		}
	}
}

// One too many is refused, whatever it says.
func TestNewWithOneTooMany(t *testing.T) {
	for n := 1; n <= 16; n++ {
		for _, last := range []bool{false, true} {
			fast := append(make([]bool, n), last)
			if b, e := own.New(n, fast); b != nil || e != api.ErrArg {
				t.Fatalf("New(%d) with %v: %v, %v", n, fast, b, e)
			}
			newTwin(t, n, fast[:n]...)
		}
	}
}

func TestNewWithOneFast(t *testing.T) {
	for n := 1; n <= 16; n++ {
		for one := range n {
			fast := make([]bool, one+1)
			fast[one] = true
			w := newTwin(t, n, fast...)
			for page := range n {
				if w.book.Fast(page) != (page == one) {
					t.Fatalf("of %d pages %d alone is fast: Fast(%d): %v", n, one, page, w.book.Fast(page))
				}
			}
		}
	}
}

// Each book is one of its own.
func TestTwoBooks(t *testing.T) {
	fast := []bool{true, false}
	v, w := newTwin(t, 2, fast...), newTwin(t, 2, fast...)
	v.needs(0, 1, give(0, 1, true))
	w.look()
	w.needs(0, 2, give(0, 2, true))
	v.needs(0, 2, call(0, 1, 2, true))
	v.fails(1, 0)
	w.look()
	w.needs(0, 1, call(0, 2, 1, true))
	v.mends(0, give(0, 2, true))
	w.look()
}

// 20.2: Need

// wrong is pages that aren't there, of a book of n.
func wrong(n int) []int {
	var all []int
	for _, page := range ints() {
		if page < 0 || page >= n {
			all = append(all, page)
		}
	}
	return all
}

// nobodies is instances that aren't there.
func nobodies() []int {
	var all []int
	for _, inst := range ints() {
		if inst < 1 || inst > 8 {
			all = append(all, inst)
		}
	}
	return all
}

// busy is a book with something of each kind: 0 is nobody's, 1 is 1's, 2 is 2's and called, 3 is lost, for 4 and 5 somebody waits who isn't the first.
func busy(t testing.TB) *twin {
	w := newTwin(t, 6, true, false, true)
	w.needs(1, 1, give(1, 1, false))
	w.needs(2, 2, give(2, 2, true))
	w.needs(2, 3, call(2, 2, 3, true))
	w.needs(3, 8, give(3, 8, false))
	w.needs(4, 8, give(4, 8, false))
	w.needs(4, 4, call(4, 8, 4, false))
	w.needs(4, 5)
	w.fails(8, 3, 4)
	w.needs(5, 7, give(5, 7, false))
	w.needs(5, 8, call(5, 7, 8, false))
	w.needs(5, 1)
	return w
}

func TestNeedOfWhatIsNotThere(t *testing.T) {
	for n := 1; n <= 16; n++ {
		w := newTwin(t, n, true)
		w.needs(n-1, 1, give(n-1, 1, n == 1))
		for _, page := range append(wrong(n), n, n+1) {
			for _, inst := range []int{0, 1, 8, 9} {
				w.noNeed(page, inst, api.ErrArg)
			}
		}
	}
	w := busy(t)
	for _, inst := range nobodies() {
		for page := -1; page <= 6; page++ {
			w.noNeed(page, inst, api.ErrArg)
		}
	}
}

// The instances at the limits can have pages, and wait.
func TestNeedOfTheFirstAndTheLast(t *testing.T) {
	w := newTwin(t, 16)
	w.needs(0, 1, give(0, 1, false))
	w.needs(0, 8, call(0, 1, 8, false))
	w.needs(15, 8, give(15, 8, false))
	w.needs(15, 1, call(15, 8, 1, false))
	w.backs(0, 1, give(0, 8, false))
	w.backs(15, 8, give(15, 1, false))
}

func TestNeedOfNobodysPage(t *testing.T) {
	for _, fast := range []bool{false, true} {
		for inst := 1; inst <= 8; inst++ {
			w := newTwin(t, 3, false, fast)
			w.needs(1, inst, give(1, inst, fast))
			w.backs(1, inst)
			w.needs(1, 9-inst, give(1, 9-inst, fast))
		}
	}
}

// Who has it isn't given it again, and isn't called by itself: as long as nobody waits, while somebody does, and behind that one's crash.
func TestNeedOfWhoHasIt(t *testing.T) {
	for inst := 1; inst <= 8; inst++ {
		other := 1 + inst%8
		w := newTwin(t, 2)
		w.needs(0, inst, give(0, inst, false))
		w.noNeed(0, inst, api.ErrTwice)
		w.noNeed(0, inst, api.ErrTwice)
		w.needs(1, inst, give(1, inst, false))
		w.needs(0, other, call(0, inst, other, false))
		w.noNeed(0, inst, api.ErrTwice)
		w.fails(other)
		w.noNeed(0, inst, api.ErrTwice)
		w.backs(0, inst)
		w.needs(0, inst, give(0, inst, false))
		w.noNeed(0, inst, api.ErrTwice)
	}
}

// Who waits doesn't wait twice: the first, one in the midst, the last; for an instance's page and for one that is lost.
func TestNeedOfWhoWaits(t *testing.T) {
	w := newTwin(t, 2)
	w.needs(0, 5, give(0, 5, false))
	w.needs(0, 3, call(0, 5, 3, false))
	w.noNeed(0, 3, api.ErrTwice)
	w.needs(0, 8)
	w.needs(0, 1)
	for range 2 {
		for _, inst := range []int{3, 8, 1} {
			w.noNeed(0, inst, api.ErrTwice)
		}
		w.fails(5, w.words.has(5)...) // then the page is lost
	}
	w.needs(1, 3, give(1, 3, false)) // another page is another matter
	w.mends(0, give(0, 3, false), call(0, 3, 8, false))
	w.noNeed(0, 3, api.ErrTwice)
	w.noNeed(0, 8, api.ErrTwice)
	w.backs(0, 3, give(0, 8, false), call(0, 8, 1, false))
	w.needs(0, 3)
	w.noNeed(0, 3, api.ErrTwice)
}

// An instance's page is called once till it is handed over; To is the first who waits.
func TestNeedCallsOnce(t *testing.T) {
	for _, fast := range []bool{false, true} {
		w := newTwin(t, 1, fast)
		w.needs(0, 4, give(0, 4, fast))
		w.needs(0, 7, call(0, 4, 7, fast))
		for _, inst := range []int{2, 8, 1, 3, 6, 5} {
			w.needs(0, inst)
		}
		for inst := 1; inst <= 8; inst++ {
			w.noNeed(0, inst, api.ErrTwice)
		}
		w.backs(0, 4, give(0, 7, fast), call(0, 7, 2, fast))
		w.needs(0, 4)
		w.backs(0, 7, give(0, 2, fast), call(0, 2, 8, fast))
	}
}

// Who was called is not called again, though nobody waits any more for whom it was called: it was told to hand the page over, and hasn't yet.
func TestNeedOfACalledPageForWhichNobodyWaits(t *testing.T) {
	w := newTwin(t, 1, true)
	w.needs(0, 1, give(0, 1, true))
	w.needs(0, 2, call(0, 1, 2, true))
	w.fails(2)
	w.needs(0, 3)
	w.needs(0, 2)
	w.backs(0, 1, give(0, 3, true), call(0, 3, 2, true))
	w.fails(2)
	w.backs(0, 3)
	w.needs(0, 4, give(0, 4, true))
	w.needs(0, 2, call(0, 4, 2, true))
}

// Who asks for a lost page waits, and nothing is told: the page is nobody's to hand over.
func TestNeedOfALostPage(t *testing.T) {
	w := newTwin(t, 2, true, true)
	w.needs(0, 1, give(0, 1, true))
	w.fails(1, 0)
	w.needs(0, 2)
	w.needs(0, 1)
	w.needs(0, 8)
	w.noNeed(0, 1, api.ErrTwice)
	if l := w.book.Waits(0); len(l) != 3 || l[0] != 2 || l[1] != 1 || l[2] != 8 {
		t.Fatal("Waits:", l)
	}
	w.mends(0, give(0, 2, true), call(0, 2, 1, true))
}

// What one page has doesn't touch another one.
func TestNeedOfEachPageByItself(t *testing.T) {
	for n := 1; n <= 16; n++ {
		w := newTwin(t, n, make([]bool, n)...)
		for page := range n {
			first := 1 + page%8
			for i := range 8 {
				inst := 1 + (page+i)%8
				switch i {
				case 0:
					w.needs(page, inst, give(page, inst, false))
				case 1:
					w.needs(page, inst, call(page, first, inst, false))
				default:
					w.needs(page, inst)
				}
			}
		}
		for page := n - 1; page >= 0; page-- {
			first, second, third := 1+page%8, 1+(page+1)%8, 1+(page+2)%8
			w.backs(page, first, give(page, second, false), call(page, second, third, false))
		}
	}
}

// 20.2: Back

func TestBackOfWhatIsNotThere(t *testing.T) {
	for n := 1; n <= 16; n++ {
		w := newTwin(t, n)
		w.needs(n-1, 8, give(n-1, 8, false))
		for _, page := range append(wrong(n), n, n+1) {
			for _, inst := range []int{0, 1, 8, 9} {
				w.noBack(page, inst, api.ErrArg)
			}
		}
	}
	w := busy(t)
	for _, inst := range nobodies() { // 0 hands nobody's page, or a lost one, over as little as any other that isn't there
		for page := -1; page <= 6; page++ {
			w.noBack(page, inst, api.ErrArg)
		}
	}
}

// Of a page that is another's, nobody's, lost; whether inst waits for it or not.
func TestBackOfWhatIsNotOnesOwn(t *testing.T) {
	w := busy(t)
	for page := range 6 {
		for inst := 1; inst <= 8; inst++ {
			if w.words.owner[page] != inst {
				w.noBack(page, inst, api.ErrState)
			}
		}
	}
}

func TestBackOnce(t *testing.T) {
	w := newTwin(t, 2)
	w.needs(0, 1, give(0, 1, false))
	w.needs(1, 1, give(1, 1, false))
	w.backs(0, 1)
	w.noBack(0, 1, api.ErrState)
	w.needs(0, 2, give(0, 2, false))
	w.noBack(0, 1, api.ErrState)
	w.backs(1, 1)
	w.backs(0, 2)
	w.noBack(0, 2, api.ErrState)
}

// With so many who wait: none, one, .., seven.
func TestBackGivesToTheFirst(t *testing.T) {
	rows := []int{6, 2, 8, 4, 1, 7, 3}
	for _, fast := range []bool{false, true} {
		for many := range 8 {
			w := newTwin(t, 1, fast)
			w.needs(0, 5, give(0, 5, fast))
			for i, inst := range rows[:many] {
				if i == 0 {
					w.needs(0, inst, call(0, 5, inst, fast))
				} else {
					w.needs(0, inst)
				}
			}
			has := 5
			for i, inst := range rows[:many] {
				if i+1 < many {
					w.backs(0, has, give(0, inst, fast), call(0, inst, rows[i+1], fast))
				} else {
					w.backs(0, has, give(0, inst, fast))
				}
				has = inst
			}
			w.backs(0, has)
			if w.book.Owner(0) != 0 || w.book.Lost(0) {
				t.Fatal("handed over, and nobody waits: the page is", w.book.Owner(0))
			}
		}
	}
}

// A page that was called and handed over can be called anew: of the same owner too.
func TestCalledAnewBehindBack(t *testing.T) {
	w := newTwin(t, 1)
	w.needs(0, 1, give(0, 1, false))
	for range 5 {
		w.needs(0, 2, call(0, 1, 2, false))
		w.backs(0, 1, give(0, 2, false))
		w.needs(0, 1, call(0, 2, 1, false))
		w.backs(0, 2, give(0, 1, false))
	}
	w.needs(0, 3, call(0, 1, 3, false))
	w.fails(3)
	w.backs(0, 1) // it was called, and nobody waits any more
	w.needs(0, 1, give(0, 1, false))
	w.needs(0, 3, call(0, 1, 3, false))
	w.needs(0, 4)
	w.backs(0, 1, give(0, 3, false), call(0, 3, 4, false))
	w.needs(0, 1)
	w.backs(0, 3, give(0, 4, false), call(0, 4, 1, false))
	w.backs(0, 4, give(0, 1, false))
	w.needs(0, 2, call(0, 1, 2, false))
}

// One that wasn't called may hand its page over, and ask for it anew.
func TestBackWithoutACall(t *testing.T) {
	w := newTwin(t, 1)
	for range 3 {
		for inst := 1; inst <= 8; inst++ {
			w.needs(0, inst, give(0, inst, false))
			w.backs(0, inst)
		}
	}
}
