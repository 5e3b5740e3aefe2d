package lock_test

import (
	"math"
	"strings"
	"testing"

	"flotilla/api"
	"flotilla/lock"
	"flotilla/mode"
)

// the chapter's example

func TestExample(t *testing.T) {
	w := newTwin(t)
	w.has(1, "a", api.S)
	w.waits(2, "a", api.X)
	w.waits(3, "a", api.S)
	w.look()
	w.frees(1, got(2, "a", api.X))
	w.frees(2, got(3, "a", api.S))
	w.frees(3)
}

// 13.1: what Ask refuses

func TestAskRefusesNumbersBelowOne(t *testing.T) {
	w := newTwin(t)
	for _, txn := range []int{0, -1, -2, math.MinInt32, math.MinInt} {
		w.refused(txn, want("a", api.S), api.ErrArg)
	}
	for _, txn := range []int{1, 2, api.MaxTxn, api.MaxTxn + 1, math.MaxInt} {
		w.has(txn, "a", api.S)
	}
	w.look()
}

func TestAskRefusesTextsThatAreNoNames(t *testing.T) {
	w := newTwin(t)
	w.has(2, "b", api.X)
	for _, n := range []int{0, 17, 18, 32, 256, 257, 65536 + 1} {
		w.refused(1, want(strings.Repeat("a", n), api.S), api.ErrArg)
	}
	for _, n := range []int{1, 2, 15, 16} {
		w.has(1, strings.Repeat("a", n), api.X)
		w.look()
	}
	w.refused(1, want(strings.Repeat("ä", 9), api.S), api.ErrArg)
	w.has(1, strings.Repeat("ä", 8), api.S)
	w.has(1, "\x00", api.S)
	w.look()
}

func TestAskRefusesNumbersThatAreNoModes(t *testing.T) {
	w := newTwin(t)
	for _, m := range []api.Mode{api.None, api.ModeCount, api.ModeCount + 1, -1, 256, 257, math.MinInt, math.MaxInt} {
		w.refused(1, want("a", m), api.ErrArg)
	}
	w.has(1, "a", api.X)
	for _, m := range []api.Mode{api.None, api.ModeCount, -1, 256} {
		w.refused(1, want("a", m), api.ErrArg)
		w.refused(2, want("a", m), api.ErrArg)
	}
	for i, m := range modes() {
		w.has(i+3, string(rune('b'+i)), m)
	}
	w.look()
}

// One who waits gets ErrState, at every name: one nobody has, one that it has, the one for which it waits.
func TestAskRefusesThoseWhoWait(t *testing.T) {
	w := newTwin(t)
	w.has(1, "a", api.S)
	w.has(2, "b", api.X)
	w.waits(2, "a", api.X)
	for _, name := range []string{"a", "b", "c", "\xff"} {
		for _, m := range modes() {
			w.refused(2, want(name, m), api.ErrState)
		}
	}
	w.waits(1, "b", api.IS)
	for _, m := range modes() { // what it has covers some of them
		w.refused(1, want("a", m), api.ErrState)
	}
	w.frees(2, got(1, "b", api.IS))
	w.has(1, "a", api.X)
	w.look()
}

func TestAskTellsWrongArgumentsAheadOfWaiting(t *testing.T) {
	w := newTwin(t)
	w.has(1, "a", api.S)
	w.waits(2, "a", api.X)
	w.refused(2, want("", api.S), api.ErrArg)
	w.refused(2, want(strings.Repeat("a", 17), api.S), api.ErrArg)
	w.refused(2, want("a", api.None), api.ErrArg)
	w.refused(2, want("b", api.ModeCount), api.ErrArg)
	w.refused(2, want("a", api.X), api.ErrState)
}

// 13.1: who hasn't the name

func TestAskForANameNobodyHas(t *testing.T) {
	for _, m := range modes() {
		w := newTwin(t)
		w.has(7, "a", m)
		w.held(7, api.Held{Name: "a", Mode: m})
		if _, ok := w.table.Waits(7); ok {
			t.Error("it waits")
		}
	}
}

// beside are the modes that go beside one another, by the table of chapter 4.
func beside(a, b api.Mode) bool {
	rows := map[api.Mode]string{api.IS: "is ix s six", api.IX: "is ix", api.S: "is s", api.SIX: "is", api.X: ""}
	for _, name := range strings.Fields(rows[a]) {
		if name == mode.Name(b) {
			return true
		}
	}
	return false
}

func TestAskForANameThatAnotherOneHas(t *testing.T) {
	for _, a := range modes() {
		for _, b := range modes() {
			w := newTwin(t)
			w.has(1, "n", a)
			if ok := w.ask(2, want("n", b)); ok != beside(a, b) {
				t.Errorf("%v beside %v: %v", b, a, ok)
			}
			if !beside(a, b) {
				w.held(2)
			} else {
				w.held(2, api.Held{Name: "n", Mode: b})
			}
			w.held(1, api.Held{Name: "n", Mode: a})
			w.has(2+5, "m", b) // another name is another lock
			w.look()
		}
	}
}

// Of many who have a name, one that stands against it is enough, whichever it is.
func TestAskForANameThatManyHave(t *testing.T) {
	for odd := 1; odd <= 6; odd++ {
		w := newTwin(t)
		for txn := 1; txn <= 6; txn++ {
			m := api.IS
			if txn == odd {
				m = api.IX
			}
			w.has(txn, "a", m)
		}
		w.has(7, "a", api.IX)
		w.waits(8, "a", api.S)
		w.look()
		w.frees(7)
		w.frees(odd, got(8, "a", api.S))
	}
}

// A name for which somebody waits isn't got by one who hasn't it, though it goes in.
func TestAskForANameForWhichSomebodyWaits(t *testing.T) {
	for _, m := range modes() {
		w := newTwin(t)
		w.has(1, "a", api.IS)
		w.waits(2, "a", api.X)
		w.waits(3, "a", m)
		w.has(3+1, "b", m)
		w.look()
	}
	w := newTwin(t)
	w.has(1, "a", api.IX)
	w.has(2, "a", api.IX)
	w.waits(2, "a", api.S) // a conversion is in the way too
	w.waits(3, "a", api.IS)
	w.look()
	w.frees(1, got(2, "a", api.S), got(3, "a", api.IS))
}

// 13.1: who has the name

// joins are what somebody has that had the one and asked for the other.
func joins(a, b api.Mode) api.Mode {
	if a > b {
		a, b = b, a
	}
	if a == api.IX && b == api.S {
		return api.SIX
	}
	return b
}

func TestWhatSomebodyHasBehindAsk(t *testing.T) {
	for _, a := range modes() {
		for _, b := range modes() {
			w := newTwin(t)
			w.has(1, "a", a)
			w.has(1, "b", b)
			w.has(1, "a", b)
			w.held(1, api.Held{Name: "a", Mode: joins(a, b)}, api.Held{Name: "b", Mode: b})
			for _, c := range modes() {
				v := newTwin(t)
				v.has(1, "a", a)
				v.has(1, "a", b)
				v.has(1, "a", c)
				v.held(1, api.Held{Name: "a", Mode: joins(joins(a, b), c)})
			}
		}
	}
}

// Two have a name, in any modes beside one another; one of them asks for any more.
func TestConversionsBesideAnotherOne(t *testing.T) {
	for _, a := range modes() {
		for _, b := range modes() {
			for _, c := range modes() {
				if !beside(a, b) {
					continue
				}
				w := newTwin(t)
				w.has(1, "n", a)
				w.has(2, "n", b)
				goes := beside(a, joins(b, c))
				if ok := w.ask(2, want("n", c)); ok != goes {
					t.Errorf("%v, with %v beside %v: %v", c, b, a, ok)
				}
				if goes {
					w.held(2, api.Held{Name: "n", Mode: joins(b, c)})
					continue
				}
				w.held(2, api.Held{Name: "n", Mode: b}) // what it had, while it waits
				w.edges([2]int{2, 1})
				w.frees(1, got(2, "n", c)) // what it asked for is told
				w.held(2, api.Held{Name: "n", Mode: joins(b, c)})
			}
		}
	}
}

// What others are held against is what somebody has: the join of all it asked for, not the last of it.
func TestOthersAreHeldAgainstTheJoin(t *testing.T) {
	w := newTwin(t)
	w.has(1, "a", api.IX)
	w.has(2, "a", api.IX)
	w.waits(2, "a", api.S)
	w.cancels(2)
	w.has(2, "a", api.IS)
	w.held(2, api.Held{Name: "a", Mode: api.IX})
	w.frees(1)
	w.has(2, "a", api.S)
	w.held(2, api.Held{Name: "a", Mode: api.SIX})
	w.has(1, "a", api.IS)
	w.waits(1, "a", api.S) // S goes beside S, and not beside SIX
	w.look()
}

func TestWhoHasItGetsWhatThatCoversWhileOthersWait(t *testing.T) {
	for _, m := range modes() {
		w := newTwin(t)
		w.has(1, "a", api.X)
		w.waits(2, "a", api.X)
		w.waits(3, "a", api.IS)
		w.has(1, "a", m)
		w.held(1, api.Held{Name: "a", Mode: api.X})
		w.frees(1, got(2, "a", api.X))
	}
	w := newTwin(t)
	w.has(1, "a", api.SIX)
	w.has(2, "a", api.IS)
	w.waits(2, "a", api.S)
	w.has(1, "a", api.IX)
	w.has(1, "a", api.S)
	w.has(1, "a", api.IS)
	w.has(1, "a", api.SIX)
	w.held(1, api.Held{Name: "a", Mode: api.SIX})
	w.waits(1, "a", api.X)
	w.victim(1, 2)
}

// A conversion that goes in needn't wait, though others do: those who haven't the name, and other conversions.
func TestConversionsGoInWhileOthersWait(t *testing.T) {
	w := newTwin(t)
	w.has(1, "a", api.IS)
	w.has(2, "a", api.IS)
	w.waits(3, "a", api.X)
	w.has(1, "a", api.S)
	w.look()
	w.has(2, "a", api.S)
	w.held(2, api.Held{Name: "a", Mode: api.S})
	w.waits(2, "a", api.X)
	w.has(4, "b", api.IS)
	w.has(1, "a", api.IS)
	w.held(1, api.Held{Name: "a", Mode: api.S})
	w.look()

	v := newTwin(t)
	v.has(1, "a", api.IS)
	v.has(2, "a", api.IX)
	v.has(3, "a", api.IS)
	v.waits(1, "a", api.S)
	v.has(3, "a", api.IX) // ahead of the conversion that waits
	v.held(3, api.Held{Name: "a", Mode: api.IX})
	v.frees(2)
	v.frees(3, got(1, "a", api.S))
}

func TestOneWhoHasItAloneGetsAnyModeWhileOthersWait(t *testing.T) {
	for _, a := range modes() {
		for _, b := range modes() {
			w := newTwin(t)
			w.has(1, "a", a)
			w.has(9, "a"+"b", api.X)
			if !w.ask(2, want("a", api.X)) {
				w.waits(3, "a", api.IS)
			}
			w.has(1, "a", b)
			w.held(1, api.Held{Name: "a", Mode: joins(a, b)})
			w.frees(1, got(2, "a", api.X))
		}
	}
}

// 13.4: a nil table

func TestANilTable(t *testing.T) {
	var n *lock.Table
	for _, txn := range ints() {
		for _, name := range []string{"", "a", strings.Repeat("a", 17)} {
			for _, m := range []api.Mode{api.None, api.S, api.X, api.ModeCount} {
				if ok, e := n.Ask(txn, want(name, m)); ok || e != api.ErrArg {
					t.Errorf("Ask(%d, %q %v): %v, %v", txn, name, m, ok, e)
				}
			}
		}
		if l := n.Free(txn); len(l) != 0 {
			t.Errorf("Free(%d): %v", txn, l)
		}
		if l := n.Cancel(txn); len(l) != 0 {
			t.Errorf("Cancel(%d): %v", txn, l)
		}
		if v, ok := n.Victim(txn); v != 0 || ok {
			t.Errorf("Victim(%d): %d, %v", txn, v, ok)
		}
		if l := n.Held(txn); len(l) != 0 {
			t.Errorf("Held(%d): %v", txn, l)
		}
		if a, ok := n.Waits(txn); a != (api.Want{}) || ok {
			t.Errorf("Waits(%d): %v, %v", txn, a, ok)
		}
	}
	if l, m := n.Edges(), n.Txns(); len(l) != 0 || len(m) != 0 {
		t.Errorf("Edges, Txns: %v, %v", l, m)
	}
}

// A new table has nothing, and tables have nothing in common.
func TestNewTables(t *testing.T) {
	w, v := newTwin(t), newTwin(t)
	w.look(ints()...)
	w.has(1, "a", api.X)
	v.look(1)
	v.has(2, "a", api.X)
	v.waits(1, "a", api.S)
	w.look(2)
	v.look()
	w.frees(1)
	v.look()
}
