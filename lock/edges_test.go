package lock_test

import (
	"math"
	"testing"

	"flotilla/api"
)

// 13.3: who waits for whom, and victims of rings

func TestEdgesForThoseWhoHaveIt(t *testing.T) {
	w := newTwin(t)
	w.edges()
	w.has(7, "a", api.IX)
	w.has(2, "a", api.IS)
	w.has(5, "a", api.IX)
	w.edges()
	w.waits(3, "a", api.S) // not for 2
	w.edges([2]int{3, 5}, [2]int{3, 7})
	w.cancels(3)
	w.waits(3, "a", api.X)
	w.edges([2]int{3, 2}, [2]int{3, 5}, [2]int{3, 7})
	w.frees(5)
	w.edges([2]int{3, 2}, [2]int{3, 7})
}

// Of those ahead in the row all are waited for, also those that it goes beside; nobody waits for those behind it.
func TestEdgesForThoseAheadInTheRow(t *testing.T) {
	w := newTwin(t)
	w.has(5, "a", api.S)
	w.waits(9, "a", api.IX)
	w.waits(1, "a", api.IX)
	w.waits(7, "a", api.IS)
	w.edges([2]int{1, 5}, [2]int{1, 9}, [2]int{7, 1}, [2]int{7, 9}, [2]int{9, 5})
	w.cancels(1)
	w.edges([2]int{7, 9}, [2]int{9, 5})
}

// A conversion waits for others who have the name, not for itself, and for conversions ahead of it; the others wait for it by both: once.
func TestEdgesOfConversions(t *testing.T) {
	w := newTwin(t)
	w.has(1, "a", api.S)
	w.has(2, "a", api.S)
	w.has(3, "a", api.IS)
	w.waits(4, "a", api.X)
	w.edges([2]int{4, 1}, [2]int{4, 2}, [2]int{4, 3})
	w.waits(2, "a", api.IX) // it would have SIX
	w.edges([2]int{2, 1}, [2]int{4, 1}, [2]int{4, 2}, [2]int{4, 3})
	w.waits(3, "a", api.IX) // and not beside the S of both
	w.edges([2]int{2, 1}, [2]int{3, 1}, [2]int{3, 2}, [2]int{4, 1}, [2]int{4, 2}, [2]int{4, 3})
}

// For a conversion, what it would have counts; for others, what it has, not what it asked for last.
func TestEdgesAreOfWhatSomebodyWouldHave(t *testing.T) {
	w := newTwin(t)
	w.has(1, "a", api.IX)
	w.has(2, "a", api.IX)
	w.has(3, "a", api.IS)
	w.waits(2, "a", api.S) // SIX: 1 and not 3
	w.edges([2]int{2, 1})
	w.cancels(2)
	w.frees(1)
	w.has(2, "a", api.S)
	w.waits(3, "a", api.S) // S isn't beside SIX
	w.waits(4, "a", api.S)
	w.edges([2]int{3, 2}, [2]int{4, 2}, [2]int{4, 3})
}

// A conversion steps ahead of those who wait: they wait for it from then on, and it doesn't wait for them.
func TestAConversionStepsAhead(t *testing.T) {
	w := newTwin(t)
	w.has(1, "a", api.IS)
	w.has(2, "a", api.IX)
	w.waits(3, "a", api.SIX)
	w.edges([2]int{3, 2})
	w.waits(1, "a", api.S)
	w.edges([2]int{1, 2}, [2]int{3, 1}, [2]int{3, 2})
	w.frees(2, got(1, "a", api.S))
	w.edges([2]int{3, 1})
}

func TestEdgesOfSeveralNames(t *testing.T) {
	w := newTwin(t)
	w.has(4, "b", api.X)
	w.has(1, "a", api.X)
	w.has(6, "c", api.X)
	w.waits(2, "b", api.S)
	w.waits(5, "a", api.S)
	w.waits(4, "a", api.S)
	w.waits(3, "c", api.S)
	w.edges([2]int{2, 4}, [2]int{3, 6}, [2]int{4, 1}, [2]int{4, 5}, [2]int{5, 1})
}

func TestEdgesAreByNumber(t *testing.T) {
	w := newTwin(t)
	w.has(math.MaxInt, "a", api.S)
	w.has(9, "a", api.S)
	w.has(10, "a", api.S)
	w.waits(100, "a", api.X)
	w.waits(20, "a", api.X)
	w.edges([2]int{20, 9}, [2]int{20, 10}, [2]int{20, 100}, [2]int{20, math.MaxInt}, [2]int{100, 9}, [2]int{100, 10}, [2]int{100, math.MaxInt})
}

// Victim

func TestVictimOfARing(t *testing.T) {
	w := newTwin(t)
	w.has(1, "a", api.X)
	w.has(2, "b", api.X)
	w.waits(1, "b", api.X)
	w.victim(1, 0)
	w.waits(2, "a", api.X)
	w.victim(1, 2)
	w.victim(2, 2)
	w.frees(2, got(1, "b", api.X))
	w.victim(1, 0)
	w.victim(2, 0)
}

// The greatest of all who are in the ring, wherever it stands, and not the greatest of all.
func TestVictimIsTheGreatestOfTheRing(t *testing.T) {
	for first := range 3 {
		w := newTwin(t)
		ring := []int{3, 8, 5}
		for i, txn := range ring {
			w.has(txn, string(rune('a'+i)), api.X)
		}
		w.has(9, "d", api.X)
		w.waits(10, "d", api.X)
		for i := range ring {
			k := (i + first) % 3
			w.waits(ring[k], string(rune('a'+(k+1)%3)), api.S)
		}
		w.waits(20, "a", api.S)
		for _, txn := range ring {
			w.victim(txn, 8)
		}
		w.victim(20, 0) // it waits for a ring, and is in none
		w.victim(9, 0)
		w.victim(10, 0)
		w.victim(4, 0)
	}
}

// Two who want more of a name that both have are a ring.
func TestVictimOfTwoConversions(t *testing.T) {
	w := newTwin(t)
	w.has(4, "a", api.S)
	w.has(7, "a", api.S)
	w.waits(7, "a", api.X)
	w.victim(7, 0) // it doesn't wait for itself
	w.victim(4, 0)
	w.waits(9, "a", api.X)
	w.victim(9, 0)
	w.waits(4, "a", api.X)
	w.edges([2]int{4, 7}, [2]int{7, 4}, [2]int{9, 4}, [2]int{9, 7})
	w.victim(4, 7)
	w.victim(7, 7)
	w.victim(9, 0)
	w.frees(7, got(4, "a", api.X))
	w.victim(4, 0)
}

// Conversions that would have the same, not all of them against one another: only those are a ring that wait for each other.
func TestConversionsThatWouldHaveTheSame(t *testing.T) {
	w := newTwin(t)
	w.has(1, "a", api.IS)
	w.has(2, "a", api.IS)
	w.has(3, "a", api.IX)
	w.waits(1, "a", api.S)
	w.waits(2, "a", api.S)
	w.edges([2]int{1, 3}, [2]int{2, 1}, [2]int{2, 3})
	w.victim(1, 0)
	w.victim(2, 0)
	w.waits(3, "a", api.X)
	w.edges([2]int{1, 3}, [2]int{2, 1}, [2]int{2, 3}, [2]int{3, 1}, [2]int{3, 2})
	w.victim(1, 3)
	w.cancels(3)
	w.frees(3, got(1, "a", api.S), got(2, "a", api.S))
}

// A ring may go by one who stands ahead in a row and has nothing there.
func TestARingByThoseAheadInTheRow(t *testing.T) {
	w := newTwin(t)
	w.has(1, "a", api.S)
	w.has(3, "b", api.X)
	w.waits(2, "a", api.X)
	w.waits(3, "a", api.S) // behind 2; beside 1
	w.edges([2]int{2, 1}, [2]int{3, 2})
	w.victim(3, 0)
	w.waits(1, "b", api.S)
	w.edges([2]int{1, 3}, [2]int{2, 1}, [2]int{3, 2})
	for _, txn := range []int{1, 2, 3} {
		w.victim(txn, 3)
	}
	w.frees(3, got(1, "b", api.S))
	for _, txn := range []int{1, 2, 3} {
		w.victim(txn, 0)
	}
}

// One in the midst of a row, whom those ahead of it keep from nothing but the row, is in a ring by way of several.
func TestARingByAFarOneAheadInTheRow(t *testing.T) {
	w := newTwin(t)
	w.has(1, "a", api.IX)
	w.has(9, "b", api.X)
	w.waits(2, "a", api.S)
	w.waits(3, "a", api.IS)
	w.waits(4, "a", api.IX)
	w.waits(9, "a", api.IS)
	w.waits(5, "a", api.X)
	w.waits(1, "b", api.IS)
	for _, txn := range []int{1, 2, 3, 4, 9} {
		w.victim(txn, 9)
	}
	w.victim(5, 0)
	w.cancels(2, got(3, "a", api.IS), got(4, "a", api.IX), got(9, "a", api.IS))
	w.victim(1, 0)
	w.victim(5, 0)
}

// One that is against others by its own mode alone, though one ahead of it waits too.
func TestARingByAModeOfOnesOwn(t *testing.T) {
	w := newTwin(t)
	w.has(1, "a", api.IX)
	w.has(2, "a", api.IS)
	w.has(4, "b", api.X)
	w.waits(3, "a", api.S) // for 1
	w.waits(4, "a", api.X) // for 1, 2 and 3
	w.waits(2, "b", api.S) // for 4
	w.edges([2]int{2, 4}, [2]int{3, 1}, [2]int{4, 1}, [2]int{4, 2}, [2]int{4, 3})
	w.victim(2, 4)
	w.victim(4, 4)
	w.victim(1, 0)
	w.victim(3, 0)
}

// Two rings that lead to one another are one; two that don't are two.
func TestSeveralRings(t *testing.T) {
	w := newTwin(t)
	w.has(1, "a", api.X)
	w.has(2, "b", api.X)
	w.has(3, "c", api.X)
	w.has(4, "d", api.X)
	w.has(5, "e", api.S)
	w.has(2, "e", api.S)
	w.waits(1, "b", api.X)
	w.waits(2, "a", api.X)
	w.waits(3, "d", api.X)
	w.waits(4, "c", api.X)
	w.waits(5, "c", api.X)
	w.waits(6, "e", api.X)
	w.victim(1, 2)
	w.victim(2, 2)
	w.victim(3, 4)
	w.victim(4, 4)
	w.victim(5, 0)
	w.victim(6, 0)

	for _, back := range []bool{false, true} {
		v := newTwin(t)
		v.has(1, "a", api.S)
		v.has(2, "b", api.S)
		v.has(3, "b", api.S)
		v.has(3, "c", api.S)
		v.has(4, "d", api.X)
		if back {
			v.has(1, "c", api.S)
		}
		v.waits(1, "b", api.X)
		v.waits(2, "a", api.X)
		v.waits(3, "d", api.X)
		v.waits(4, "c", api.X)
		greatest := map[bool]int{false: 2, true: 4}[back]
		v.victim(1, greatest)
		v.victim(2, greatest)
		v.victim(3, 4)
		v.victim(4, 4)
	}
}

func TestVictimOfNobody(t *testing.T) {
	w := newTwin(t)
	for _, txn := range ints() {
		w.victim(txn, 0)
	}
	w.has(1, "a", api.X)
	w.waits(2, "a", api.X)
	for _, txn := range ints() {
		w.victim(txn, 0)
	}
}
