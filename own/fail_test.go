package own_test

import (
	"testing"

	"flotilla/api"
)

// 20.3: Fail

func TestFailOfNobody(t *testing.T) {
	w := newTwin(t, 3)
	for _, inst := range nobodies() {
		w.fails(inst)
	}
	v := busy(t)
	for _, inst := range nobodies() { // 0 has neither nobody's pages nor the lost ones
		v.fails(inst)
	}
}

// An instance that has nothing and waits for nothing: nothing changes.
func TestFailOfOneWithNothing(t *testing.T) {
	w := newTwin(t, 2)
	for inst := 1; inst <= 8; inst++ {
		w.fails(inst)
	}
	w.needs(0, 1, give(0, 1, false))
	w.needs(0, 2, call(0, 1, 2, false))
	for inst := 3; inst <= 8; inst++ {
		w.fails(inst)
	}
	w.backs(0, 1, give(0, 2, false))
}

// Its pages are told rising, in whatever order it got them; one of all, some, each.
func TestFailTellsPagesRising(t *testing.T) {
	for inst := 1; inst <= 8; inst++ {
		other := 1 + inst%8
		w := newTwin(t, 16)
		for _, page := range []int{9, 15, 2, 0, 11} {
			w.needs(page, inst, give(page, inst, false))
		}
		for _, page := range []int{1, 14} {
			w.needs(page, other, give(page, other, false))
		}
		w.fails(inst, 0, 2, 9, 11, 15)
		w.fails(inst)
		w.needs(10, inst, give(10, inst, false))
		w.fails(inst, 10)
		w.fails(other, 1, 14)
	}
	w := newTwin(t, 16)
	for page := 15; page >= 0; page-- {
		w.needs(page, 3, give(page, 3, false))
	}
	w.fails(3, 0, 1, 2, 3, 4, 5, 6, 7, 8, 9, 10, 11, 12, 13, 14, 15)
	for page := range 16 {
		if !w.book.Lost(page) || w.book.Owner(page) != 0 {
			t.Fatalf("the page %d isn't lost", page)
		}
	}
}

// row is a book in which 8 has page 0, and 1, 2, .. wait for it, so many.
func row(t testing.TB, many int) *twin {
	w := newTwin(t, 2, true)
	w.needs(0, 8, give(0, 8, true))
	w.needs(1, 8, give(1, 8, false))
	for inst := 1; inst <= many; inst++ {
		if inst == 1 {
			w.needs(0, inst, call(0, 8, inst, true))
		} else {
			w.needs(0, inst)
		}
	}
	return w
}

// One that waits goes from the row, first in it, in its midst, last or alone; the others stay as they stood, and nobody is called once more.
func TestFailOfOneThatWaits(t *testing.T) {
	for many := 1; many <= 7; many++ {
		for gone := 1; gone <= many; gone++ {
			w := row(t, many)
			w.fails(gone)
			var left []int
			for inst := 1; inst <= many; inst++ {
				if inst != gone {
					left = append(left, inst)
				}
			}
			has := 8
			for i, inst := range left {
				if i+1 < len(left) {
					w.backs(0, has, give(0, inst, true), call(0, inst, left[i+1], true))
				} else {
					w.backs(0, has, give(0, inst, true))
				}
				has = inst
			}
			w.backs(0, has)
		}
	}
}

// Several go, one behind the other, and one that is back waits behind all.
func TestFailOfSeveralThatWait(t *testing.T) {
	w := row(t, 7)
	w.fails(3)
	w.fails(1)
	w.fails(7)
	w.fails(3)
	w.needs(0, 3)
	w.needs(0, 1)
	if l := w.book.Waits(0); len(l) != 6 || l[0] != 2 || l[4] != 3 || l[5] != 1 {
		t.Fatal("Waits:", l)
	}
	w.backs(0, 8, give(0, 2, true), call(0, 2, 4, true))
}

// One that waits for several pages waits for none of them.
func TestFailOfOneThatWaitsForSeveral(t *testing.T) {
	w := newTwin(t, 4, false, true)
	for page := range 4 {
		w.needs(page, 1+page, give(page, 1+page, page == 1))
		w.needs(page, 5, call(page, 1+page, 5, page == 1))
	}
	w.needs(1, 6)
	w.needs(3, 6)
	w.fails(5)
	w.backs(0, 1)
	w.backs(1, 2, give(1, 6, true))
	w.backs(2, 3)
	w.backs(3, 4, give(3, 6, false))
}

// One that has pages and waits for others loses both.
func TestFailOfOneThatHasAndWaits(t *testing.T) {
	w := newTwin(t, 5)
	w.needs(0, 1, give(0, 1, false))
	w.needs(1, 2, give(1, 2, false))
	w.needs(2, 1, give(2, 1, false))
	w.needs(1, 1, call(1, 2, 1, false))
	w.needs(0, 2, call(0, 1, 2, false))
	w.needs(0, 3)
	w.fails(1, 0, 2)
	w.noNeed(0, 2, api.ErrTwice)
	w.backs(1, 2)
	w.mends(2)
	w.mends(0, give(0, 2, false), call(0, 2, 3, false))
}

// A page whose owner was called and fails is lost, and isn't called any more: behind Mend it can be called anew.
func TestFailOfOneThatWasCalled(t *testing.T) {
	for many := range 8 {
		w := row(t, many)
		w.fails(8, 0, 1)
		w.noBack(0, 8, api.ErrState)
		switch many {
		case 0:
			w.mends(0)
			w.needs(0, 8, give(0, 8, true))
			w.needs(0, 1, call(0, 8, 1, true))
		case 1:
			w.mends(0, give(0, 1, true))
			w.needs(0, 8, call(0, 1, 8, true))
		default:
			w.mends(0, give(0, 1, true), call(0, 1, 2, true))
			w.needs(0, 8)
		}
	}
}

// It was called, the one who waited crashed, then it: nothing of that call is left.
func TestFailOfOneThatWasCalledForNobody(t *testing.T) {
	w := row(t, 1)
	w.fails(1)
	w.fails(8, 0, 1)
	w.mends(0)
	w.needs(0, 8, give(0, 8, true))
	w.needs(0, 1, call(0, 8, 1, true))
}

// What the others have, how they wait and what was lost already stays.
func TestFailOfOneAmongOthers(t *testing.T) {
	for inst := 1; inst <= 8; inst++ {
		w := busy(t)
		w.fails(inst, w.words.has(inst)...)
		w.fails(inst)
		for other := 1; other <= 8; other++ {
			w.fails(other, w.words.has(other)...)
		}
		for page := range 6 {
			if w.book.Lost(page) != (page > 0) || len(w.book.Waits(page)) > 0 {
				t.Fatalf("all failed, and the page %d: lost %v, for it wait %v", page, w.book.Lost(page), w.book.Waits(page))
			}
		}
	}
}

// One that failed can ask at once, and wait for what it had.
func TestNeedBehindFail(t *testing.T) {
	w := newTwin(t, 2)
	w.needs(0, 1, give(0, 1, false))
	w.fails(1, 0)
	w.needs(1, 1, give(1, 1, false))
	w.needs(0, 1)
	w.fails(1, 1) // it waits for 0 no more
	w.mends(0)
	w.needs(0, 1, give(0, 1, false))
}

// 20.3: Mend

func TestMendOfWhatIsNotThere(t *testing.T) {
	for n := 1; n <= 16; n++ {
		w := newTwin(t, n)
		w.needs(0, 1, give(0, 1, false))
		w.fails(1, 0)
		for _, page := range append(wrong(n), n, n+1) {
			w.noMend(page, api.ErrArg)
		}
	}
}

// Of a page that is nobody's, an instance's, one that was called, and one that is mended already.
func TestMendOfWhatIsNotLost(t *testing.T) {
	w := busy(t)
	for _, page := range []int{0, 1, 2, 5} {
		w.noMend(page, api.ErrState)
	}
	w.mends(3)
	w.noMend(3, api.ErrState)
	w.mends(4, give(4, 4, false), call(4, 4, 5, false))
	w.noMend(4, api.ErrState)
}

// With nobody who waits, one, .., eight: some of them from ahead of the crash, some from behind it.
func TestMendGivesToTheFirst(t *testing.T) {
	for _, fast := range []bool{false, true} {
		for ahead := range 8 {
			for many := ahead; many <= 8; many++ {
				w := newTwin(t, 3, false, fast)
				w.needs(1, 8, give(1, 8, fast))
				for inst := 1; inst <= many; inst++ {
					if inst == ahead+1 {
						w.fails(8, 1)
					}
					if inst == 1 && ahead > 0 {
						w.needs(1, inst, call(1, 8, inst, fast))
					} else {
						w.needs(1, inst)
					}
				}
				if many == ahead {
					w.fails(8, 1)
				}
				switch many {
				case 0:
					w.mends(1)
				case 1:
					w.mends(1, give(1, 1, fast))
				default:
					w.mends(1, give(1, 1, fast), call(1, 1, 2, fast))
				}
			}
		}
	}
}

// A page that is lost stays so, whatever is done, till it is mended.
func TestLostTillMended(t *testing.T) {
	w := newTwin(t, 2)
	w.needs(0, 1, give(0, 1, false))
	w.needs(1, 2, give(1, 2, false))
	w.fails(1, 0)
	w.needs(0, 1)
	w.needs(0, 2)
	w.fails(1)
	w.fails(2, 1)
	w.mends(1)
	for inst := 1; inst <= 8; inst++ {
		w.noBack(0, inst, api.ErrState)
		w.needs(0, inst)
	}
	w.fails(8)
	if !w.book.Lost(0) || w.book.Lost(1) {
		t.Fatal("Lost:", w.book.Lost(0), w.book.Lost(1))
	}
	w.mends(0, give(0, 1, false), call(0, 1, 2, false))
	w.noMend(0, api.ErrState)
}

// It is lost and mended again and again.
func TestFailAndMendAgain(t *testing.T) {
	w := newTwin(t, 1, true)
	for inst := 1; inst <= 8; inst++ {
		w.needs(0, inst, give(0, inst, true))
		w.fails(inst, 0)
		w.mends(0)
	}
	w.needs(0, 1, give(0, 1, true))
	for inst := 1; inst < 8; inst++ {
		w.needs(0, inst+1, call(0, inst, inst+1, true))
		w.fails(inst, 0)
		w.mends(0, give(0, inst+1, true))
	}
}
