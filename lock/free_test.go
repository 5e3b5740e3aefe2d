package lock_test

import (
	"slices"
	"testing"

	"flotilla/api"
	"flotilla/lock"
)

// 13.2: Free, Cancel, and who gets something

func TestFreeOfOneWhoHasSeveralNames(t *testing.T) {
	w := newTwin(t)
	names := []string{"c", "a", "b", "aa", "\xff", "\x00", "B"}
	for i, name := range names {
		w.has(1, name, api.X)
		w.waits(i+2, name, modes()[i%5])
	}
	w.has(9, "d", api.X)
	var all []lock.Grant
	for i, name := range names {
		all = append(all, got(i+2, name, modes()[i%5]))
	}
	slices.SortFunc(all, func(a, b lock.Grant) int { return slices.Compare([]byte(a.Want.Name), []byte(b.Want.Name)) })
	w.frees(1, all...)
	w.held(1)
	for i, name := range names {
		w.held(i+2, api.Held{Name: name, Mode: modes()[i%5]})
	}
}

// Name by name, and in the row's order, whatever the numbers of those who wait.
func TestWhoGetsSomethingComesNameByNameInTheRowsOrder(t *testing.T) {
	w := newTwin(t)
	w.has(5, "b", api.X)
	w.has(5, "a", api.X)
	w.waits(4, "b", api.S)
	w.waits(9, "a", api.IX)
	w.waits(2, "b", api.IS)
	w.waits(1, "a", api.IS)
	w.waits(3, "b", api.S)
	w.waits(8, "a", api.IX)
	w.waits(7, "a", api.S)
	w.waits(6, "a", api.IS)
	w.frees(5, got(9, "a", api.IX), got(1, "a", api.IS), got(8, "a", api.IX), got(4, "b", api.S), got(2, "b", api.IS), got(3, "b", api.S))
	w.edges([2]int{6, 7}, [2]int{7, 8}, [2]int{7, 9})
	w.frees(9)
	w.frees(8, got(7, "a", api.S), got(6, "a", api.IS))
}

func TestFreeOfOneWhoWaits(t *testing.T) {
	w := newTwin(t)
	w.has(1, "a", api.S)
	w.waits(2, "a", api.X)
	w.waits(3, "a", api.S)
	w.waits(4, "a", api.X)
	w.waits(5, "a", api.S)
	w.frees(2, got(3, "a", api.S))
	w.frees(5)
	w.frees(4)
	w.held(1, api.Held{Name: "a", Mode: api.S})
	w.frees(1)
	w.frees(3)
	if l := w.table.Txns(); len(l) != 0 {
		t.Errorf("Txns: %v", l)
	}
}

// One who has names and waits for another one: something went on all of them.
func TestFreeOfOneWhoHasAndWaits(t *testing.T) {
	w := newTwin(t)
	w.has(1, "m", api.S)
	w.has(2, "z", api.X)
	w.has(2, "a", api.X)
	w.waits(2, "m", api.X)
	w.waits(3, "m", api.S)
	w.waits(4, "z", api.S)
	w.waits(5, "a", api.S)
	w.frees(2, got(5, "a", api.S), got(3, "m", api.S), got(4, "z", api.S))
}

// One who waits for more on a name that it has goes from both places of the name.
func TestFreeOfAConversion(t *testing.T) {
	w := newTwin(t)
	w.has(1, "a", api.S)
	w.has(2, "a", api.S)
	w.waits(2, "a", api.X)
	w.waits(3, "a", api.X)
	w.frees(2)
	w.frees(1, got(3, "a", api.X))

	v := newTwin(t)
	v.has(1, "a", api.IX)
	v.has(2, "a", api.IX)
	v.waits(1, "a", api.S)
	v.waits(3, "a", api.IS)
	v.waits(2, "a", api.S)
	v.frees(1, got(2, "a", api.S), got(3, "a", api.IS))
	v.held(2, api.Held{Name: "a", Mode: api.SIX})
}

func TestCancelOfOneWhoWaits(t *testing.T) {
	w := newTwin(t)
	w.has(1, "a", api.S)
	w.waits(2, "a", api.X)
	w.waits(3, "a", api.S)
	w.cancels(3)
	w.waits(3, "a", api.S)
	w.waits(4, "a", api.S)
	w.waits(5, "a", api.X)
	w.waits(6, "a", api.S)
	w.cancels(2, got(3, "a", api.S), got(4, "a", api.S))
	w.cancels(2)
	w.has(2, "b", api.S) // it may ask again
	w.cancels(6)
	w.cancels(5)
	w.has(5, "a", api.S)
	w.look()
}

// Cancel leaves what somebody has, also what it has on the name for which it waits.
func TestCancelLeavesWhatSomebodyHas(t *testing.T) {
	w := newTwin(t)
	w.has(1, "a", api.S)
	w.has(2, "a", api.S)
	w.has(2, "b", api.X)
	w.waits(2, "a", api.X)
	w.waits(3, "a", api.S)
	w.waits(4, "b", api.S)
	w.cancels(2, got(3, "a", api.S))
	w.held(2, api.Held{Name: "a", Mode: api.S}, api.Held{Name: "b", Mode: api.X})
	w.cancels(2)
	w.cancels(1)
	w.held(1, api.Held{Name: "a", Mode: api.S})
	w.frees(2, got(4, "b", api.S))
}

func TestFreeAndCancelOfThoseWhoHaveNothing(t *testing.T) {
	w := newTwin(t)
	for _, txn := range ints() {
		w.frees(txn)
		w.cancels(txn)
	}
	w.has(3, "a", api.S)
	w.waits(4, "a", api.X)
	w.waits(5, "a", api.S)
	for _, txn := range ints() {
		w.frees(txn)
		w.cancels(txn)
	}
	w.edges([2]int{4, 3}, [2]int{5, 4})
	w.frees(3, got(4, "a", api.X))
	w.frees(3)
	w.cancels(3)
	w.frees(4, got(5, "a", api.S))
}

// The row stops at the first who doesn't go in, though others behind it would.
func TestTheRowStopsAtTheFirstWhoDoesNotGoIn(t *testing.T) {
	w := newTwin(t)
	w.has(1, "a", api.X)
	w.waits(2, "a", api.IS)
	w.waits(3, "a", api.IX)
	w.waits(4, "a", api.S)
	w.waits(5, "a", api.IS)
	w.waits(6, "a", api.IX)
	w.frees(1, got(2, "a", api.IS), got(3, "a", api.IX))
	w.edges([2]int{4, 3}, [2]int{5, 4}, [2]int{6, 4}, [2]int{6, 5})
	w.frees(2)
	w.frees(3, got(4, "a", api.S), got(5, "a", api.IS))
	w.frees(5)
	w.frees(4, got(6, "a", api.IX))
}

// A conversion that doesn't go in stops the row as well.
func TestAConversionStopsTheRow(t *testing.T) {
	w := newTwin(t)
	w.has(1, "a", api.S)
	w.has(2, "a", api.S)
	w.has(3, "a", api.S)
	w.waits(4, "a", api.X)
	w.waits(1, "a", api.X)
	w.waits(5, "a", api.S)
	w.frees(2)
	w.cancels(4)
	w.frees(3, got(1, "a", api.X))
	w.frees(1, got(5, "a", api.S))
}

// Conversions stand ahead of the others, each of both in the order in which they asked.
func TestConversionsStandAhead(t *testing.T) {
	w := newTwin(t)
	for txn := 11; txn <= 14; txn++ {
		w.has(txn, "a", api.IS)
	}
	w.has(1, "a", api.IX)
	w.waits(5, "a", api.S)
	w.waits(13, "a", api.S)
	w.waits(4, "a", api.S)
	w.waits(11, "a", api.S)
	w.waits(3, "a", api.S)
	w.waits(14, "a", api.S)
	w.waits(12, "a", api.S)
	w.frees(1, got(13, "a", api.S), got(11, "a", api.S), got(14, "a", api.S), got(12, "a", api.S),
		got(5, "a", api.S), got(4, "a", api.S), got(3, "a", api.S))
}

// Who asks again stands behind all of its kind again.
func TestWhoAsksAgainStandsBehind(t *testing.T) {
	w := newTwin(t)
	for txn := 11; txn <= 13; txn++ {
		w.has(txn, "a", api.IS)
	}
	w.has(1, "a", api.IX)
	for _, txn := range []int{2, 11, 3, 12, 4, 13} {
		w.waits(txn, "a", api.S)
	}
	w.cancels(13) // the last, the first, and one in the midst
	w.waits(13, "a", api.S)
	w.cancels(2)
	w.waits(2, "a", api.S)
	w.cancels(11)
	w.waits(11, "a", api.S)
	w.cancels(4)
	w.waits(4, "a", api.S)
	w.cancels(13)
	w.waits(13, "a", api.S)
	w.frees(1, got(12, "a", api.S), got(11, "a", api.S), got(13, "a", api.S), got(3, "a", api.S), got(2, "a", api.S), got(4, "a", api.S))
}

// The conversions of a row all go; the next one stands at its front again.
func TestConversionsBehindAllConversionsWent(t *testing.T) {
	w := newTwin(t)
	w.has(1, "a", api.S)
	w.has(2, "a", api.S)
	w.has(3, "a", api.S)
	w.waits(9, "a", api.X)
	w.waits(8, "a", api.S)
	w.waits(1, "a", api.X)
	w.cancels(1)
	w.waits(2, "a", api.X)
	w.waits(1, "a", api.X)
	w.edges([2]int{1, 2}, [2]int{1, 3}, [2]int{2, 1}, [2]int{2, 3}, [2]int{8, 1}, [2]int{8, 2}, [2]int{8, 9}, [2]int{9, 1}, [2]int{9, 2}, [2]int{9, 3})
	w.cancels(2)
	w.frees(3)
	w.frees(2, got(1, "a", api.X))
	w.frees(1, got(9, "a", api.X))
	w.frees(9, got(8, "a", api.S))
}

// One who got something lets in those behind it who go beside it; what it got is what they are held against.
func TestWhoGotSomethingLetsOthersIn(t *testing.T) {
	w := newTwin(t)
	w.has(1, "a", api.IX)
	w.has(2, "a", api.IX)
	w.waits(3, "a", api.SIX)
	w.waits(4, "a", api.IS)
	w.waits(5, "a", api.IX)
	w.waits(2, "a", api.SIX)
	w.frees(1, got(2, "a", api.SIX))
	w.frees(2, got(3, "a", api.SIX), got(4, "a", api.IS))
	w.cancels(4)
	w.frees(3, got(5, "a", api.IX))
	w.held(4, api.Held{Name: "a", Mode: api.IS})
}

// Nothing goes on at names on which nothing went.
func TestNothingGoesOnElsewhere(t *testing.T) {
	w := newTwin(t)
	w.has(1, "a", api.X)
	w.has(2, "b", api.X)
	w.has(3, "c", api.X)
	w.waits(4, "a", api.S)
	w.waits(5, "b", api.S)
	w.waits(6, "c", api.S)
	w.waits(3, "b", api.S)
	w.cancels(3)
	w.frees(2, got(5, "b", api.S))
	w.edges([2]int{4, 1}, [2]int{6, 3})
	w.frees(3, got(6, "c", api.S))
	w.frees(1, got(4, "a", api.S))
}

// What is told is what was asked for, what is had is the join with what was had.
func TestWhatWasAskedForIsTold(t *testing.T) {
	w := newTwin(t)
	w.has(1, "a", api.IX)
	w.has(2, "a", api.IX)
	w.waits(2, "a", api.S)
	w.frees(1, got(2, "a", api.S))
	w.held(2, api.Held{Name: "a", Mode: api.SIX})
	if _, ok := w.table.Waits(2); ok {
		t.Error("it waits still")
	}
	w.has(2, "a", api.X)
	w.held(2, api.Held{Name: "a", Mode: api.X})
}

// What one got behind others' going is its own: it may ask at once, and gives it back by Free.
func TestWhatSomebodyGotBehindWaitingIsLikeAnyOther(t *testing.T) {
	w := newTwin(t)
	w.has(1, "a", api.X)
	w.waits(2, "a", api.X)
	w.waits(3, "a", api.S)
	w.frees(1, got(2, "a", api.X))
	w.has(2, "b", api.S)
	w.waits(1, "a", api.IS)
	w.waits(4, "b", api.X)
	w.frees(2, got(3, "a", api.S), got(1, "a", api.IS), got(4, "b", api.X))
	w.frees(2)
}

// 13.4: Held by rising name, Txns rising

func TestHeldIsByRisingName(t *testing.T) {
	w := newTwin(t)
	names := []string{"b", "a", "ab", "aa", "B", "\xff", "\x00", "a\x00", "ä", "10", "9"}
	var all []api.Held
	for i, name := range names {
		w.has(1, name, modes()[i%5])
		all = append(all, api.Held{Name: name, Mode: modes()[i%5]})
		w.look()
	}
	slices.SortFunc(all, func(a, b api.Held) int { return slices.Compare([]byte(a.Name), []byte(b.Name)) })
	w.held(1, all...)
	w.held(2)
	w.frees(1)
	w.held(1)
}

func TestTxnsAreAllWhoHaveSomethingOrWait(t *testing.T) {
	w := newTwin(t)
	is := func(all ...int) {
		t.Helper()
		if l := w.table.Txns(); !slices.Equal(l, all) {
			t.Fatalf("Txns: %v, not %v", l, all)
		}
		w.look()
	}
	is()
	w.refused(4, want("", api.S), api.ErrArg)
	is()
	w.has(9, "a", api.X)
	is(9)
	w.waits(2, "a", api.X)
	is(2, 9)
	w.waits(100, "a", api.X)
	w.has(100-1, "b", api.X)
	is(2, 9, 99, 100)
	w.cancels(2)
	is(9, 99, 100)
	w.cancels(99)
	is(9, 99, 100)
	w.frees(9, got(100, "a", api.X))
	is(99, 100)
	w.cancels(100)
	is(99, 100)
	w.frees(100)
	w.frees(99)
	is()
}

func TestWaits(t *testing.T) {
	w := newTwin(t)
	is := func(txn int, n api.Want, waits bool) {
		t.Helper()
		if m, ok := w.table.Waits(txn); m != n || ok != waits {
			t.Fatalf("Waits(%d): %v, %v", txn, m, ok)
		}
	}
	is(1, api.Want{}, false)
	w.has(1, "a", api.IX)
	is(1, api.Want{}, false)
	w.has(2, "a", api.IX)
	w.ask(1, want("a", api.S))
	is(1, want("a", api.S), true) // what it asked for, not what it would have
	w.ask(3, want("a", api.X))
	is(3, want("a", api.X), true)
	w.free(2)
	is(1, api.Want{}, false)
	is(2, api.Want{}, false)
	w.cancel(3)
	is(3, api.Want{}, false)
}
