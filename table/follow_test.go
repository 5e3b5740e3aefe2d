package table_test

import (
	"fmt"
	"maps"
	"math/rand"
	"slices"
	"testing"

	"flotilla/act"
	"flotilla/api"
	"flotilla/mode"
	"flotilla/page"
	"flotilla/table"
)

// 16.4, P1: what follows, and any arguments

// shelf is a page with what it should have.
type shelf struct {
	t   testing.TB
	p   *page.Page
	has map[string]string
}

func shelfOf(t testing.TB, p *page.Page) *shelf {
	s := &shelf{t: t, p: p, has: map[string]string{}}
	for _, c := range p.Pairs() {
		s.has[c.Key] = c.Value
	}
	return s
}

// step plans a step, does what is planned, and asks what the page has behind it.
func (s *shelf) step(k api.StepKind, key, value string) api.Reply {
	s.t.Helper()
	change, reply := planned(s.t, s.p, k, key, value)
	if reply == api.ReplyOK {
		if e := act.Do(s.p, change); e != api.OK {
			s.t.Fatalf("what Plan(%d, %q, %q) told isn't done: %v, %v", k, key, value, change, e)
		}
		if k == api.StepDelete {
			delete(s.has, key)
		} else {
			s.has[key] = value
		}
	}
	s.look(key)
	return reply
}

// look asks for all that the page has, and for one key.
func (s *shelf) look(key string) {
	s.t.Helper()
	all := table.Range([]*page.Page{s.p}, "", top)
	if len(all) != len(s.has) {
		s.t.Fatalf("behind a step of %q: %v, not %v", key, all, s.has)
	}
	for _, c := range all {
		if v, ok := s.has[c.Key]; !ok || v != c.Value {
			s.t.Fatalf("behind a step of %q: %v, not %v", key, all, s.has)
		}
	}
	v, r := table.Get(s.p, key)
	if want, ok := s.has[key]; v != want || ok != (r == api.ReplyValue) || !ok && r != api.ReplyNone {
		s.t.Fatalf("Get(%q): %q, %v, not %q, %v", key, v, r, want, ok)
	}
}

// Each step on each of some pages: what is planned is done, and changes that key alone.
func TestWhatIsPlannedIsDone(t *testing.T) {
	pages := []*page.Page{on(t), on(t, "a", "x", "b", ""), on(t, "a", text(32), text(16), text(32)), crowd(t)}
	for free := range 60 {
		pages = append(pages, narrow(t, free, false, "a", "x", "b", ""), narrow(t, free, true, "a", "x", "b", ""))
	}
	seen := map[api.Reply]int{}
	for _, p := range pages {
		for _, k := range []api.StepKind{api.StepPut, api.StepInsert, api.StepDelete, api.StepGet, api.StepScan} {
			for _, key := range texts() {
				for _, value := range []string{"", "x", "yy", text(31), text(32), text(33)} {
					seen[shelfOf(t, p.Clone()).step(k, key, value)]++
				}
			}
		}
	}
	for _, r := range []api.Reply{api.ReplyOK, api.ReplyNone, api.ReplyTwice, api.ReplyFull, api.ReplyBad} {
		if seen[r] < 100 {
			t.Errorf("%v was told only %d times", r, seen[r])
		}
	}
}

// Every row of few steps, of two keys that are all but in each other's way.
func TestEveryRowOfFewSteps(t *testing.T) {
	ends(t, "every row of few steps", func() {
		type step struct {
			k          api.StepKind
			key, value string
		}
		var all []step
		for _, k := range []api.StepKind{api.StepPut, api.StepInsert} {
			for _, key := range []string{"a", "b"} {
				all = append(all, step{k, key, ""}, step{k, key, text(4)})
			}
		}
		all = append(all, step{api.StepDelete, "a", ""}, step{api.StepDelete, "b", text(33)})
		const long = 4
		rows := 1
		for range long {
			rows *= len(all)
		}
		begin := narrow(t, 10, false, "a", "x")
		for row := range rows {
			s := shelfOf(t, begin.Clone())
			for n, rest := 0, row; n < long; n, rest = n+1, rest/len(all) {
				c := all[rest%len(all)]
				s.step(c.k, c.key, c.value)
			}
		}
	})
}

// Long rows of steps of any keys, on a page that is full much of the time.
func TestLongRowsOfSteps(t *testing.T) {
	ends(t, "long rows of steps", func() {
		seen := map[string]int{}
		for seed := range 40 {
			from := rand.New(rand.NewSource(int64(seed)))
			s := shelfOf(t, on(t))
			keys, values := texts(), texts()
			for i := range 40 + 40*(seed%2) {
				keys = append(keys, fmt.Sprint("k", i))
				values = append(values, text(from.Intn(1+16*(1+seed%2))))
			}
			kinds := []api.StepKind{api.StepPut, api.StepPut, api.StepInsert, api.StepInsert, api.StepDelete, api.StepDelete, api.StepGet}
			for range 1000 {
				k := kinds[from.Intn(len(kinds))]
				r := s.step(k, keys[from.Intn(len(keys))], values[from.Intn(len(values))])
				seen[fmt.Sprint(k, " ", r)]++
			}
		}
		for k, replies := range map[api.StepKind][]api.Reply{
			api.StepPut:    {api.ReplyOK, api.ReplyFull, api.ReplyBad},
			api.StepInsert: {api.ReplyOK, api.ReplyTwice, api.ReplyFull, api.ReplyBad},
			api.StepDelete: {api.ReplyOK, api.ReplyNone, api.ReplyBad},
			api.StepGet:    {api.ReplyBad},
		} {
			for _, r := range replies {
				if n := seen[fmt.Sprint(k, " ", r)]; n < 100 {
					t.Errorf("the step %d was told %v only %d times", k, r, n)
				}
			}
		}
	})
}

// A table over several pages, each key on its own: what all pages have is what a map would.
func TestTableOverPages(t *testing.T) {
	for _, count := range []int{1, 2, 3, 8, 16} {
		from := rand.New(rand.NewSource(int64(count)))
		var pages []*page.Page
		for id := range count {
			p, e := page.New(id)
			if e != api.OK {
				t.Fatal(e)
			}
			pages = append(pages, p)
		}
		has := map[string]string{}
		for i := range 1500 {
			key, value := fmt.Sprint("k", from.Intn(60)), fmt.Sprint(i)
			k := []api.StepKind{api.StepPut, api.StepInsert, api.StepDelete}[from.Intn(3)]
			home := pages[table.Home(key, count)]
			change, reply := table.Plan(home, k, key, value)
			if reply != api.ReplyOK {
				continue
			}
			if e := act.Do(home, change); e != api.OK {
				t.Fatal(change, e)
			}
			if has[key] = value; k == api.StepDelete {
				delete(has, key)
			}
			var want []api.Pair
			for _, key := range slices.Sorted(maps.Keys(has)) {
				if key >= "k2" && key <= "k5" {
					want = append(want, api.Pair{Key: key, Value: has[key]})
				}
			}
			if got := table.Range(pages, "k2", "k5"); !slices.Equal(got, want) {
				t.Fatalf("%d pages: %v, not %v", count, got, want)
			}
		}
	}
}

// apart tells whether some lock of one step doesn't go beside one of another step.
func apart(a, b []api.Want) bool {
	for _, x := range a {
		for _, y := range b {
			if x.Name == y.Name && !mode.Beside(x.Mode, y.Mode) {
				return true
			}
		}
	}
	return false
}

func changes(k api.StepKind) bool {
	return k == api.StepPut || k == api.StepInsert || k == api.StepDelete
}

// Who changes a key and who asks for it, or for a range, or changes it too, can't have their locks at one time; who only asks is in nobody's way who does, too.
func TestLocksOfTwoSteps(t *testing.T) {
	kinds := []api.StepKind{api.StepGet, api.StepPut, api.StepInsert, api.StepDelete, api.StepScan}
	together, apartOnes := 0, 0
	for _, pages := range []int{-1, 0, 1, 2, 3, 8, 15, 16, 1 << 40} {
		for _, a := range kinds {
			for _, b := range kinds {
				for _, key := range texts() {
					for _, other := range texts() {
						x, y := table.Wants(a, key, pages), table.Wants(b, other, pages)
						scans := a == api.StepScan || b == api.StepScan
						switch {
						case !changes(a) && !changes(b):
							if apart(x, y) {
								t.Fatalf("both only ask: %d %.20q %v, %d %.20q %v", a, key, x, b, other, y)
							}
							together++
						case scans || key == other:
							if !apart(x, y) || !apart(y, x) {
								t.Fatalf("they go beside one another: %d %.20q %v, %d %.20q %v", a, key, x, b, other, y)
							}
							apartOnes++
						}
					}
				}
			}
		}
	}
	if together == 0 || apartOnes == 0 {
		t.Error(together, apartOnes)
	}
}

// Steps of keys on two pages go beside one another, but for scans: that is what pages' locks are for.
func TestLocksOfTwoPages(t *testing.T) {
	kinds := []api.StepKind{api.StepGet, api.StepPut, api.StepInsert, api.StepDelete}
	for _, a := range kinds {
		for _, b := range kinds {
			for i := range 100 {
				key, other := fmt.Sprint("k", i), fmt.Sprint("l", i*i)
				near := table.Home(key, 16) == table.Home(other, 16)
				want := near && (changes(a) || changes(b))
				if got := apart(table.Wants(a, key, 16), table.Wants(b, other, 16)); got != want {
					t.Fatalf("%d %q, %d %q: %v", a, key, b, other, got)
				}
			}
		}
	}
}

// No step asks for one name twice, or for a mode that is none, and each asks for the whole first.
func TestLocksStandInOrder(t *testing.T) {
	for _, k := range steps() {
		for _, pages := range ints() {
			l := table.Wants(k, "a", pages)
			for i, w := range l {
				if (w.Name == "*") != (i == 0) || !mode.Known(w.Mode) || w.Mode == api.None {
					t.Fatalf("Wants(%d, a, %d): %v", k, pages, l)
				}
			}
			if len(l) == 2 && l[0].Mode != mode.Intent(l[1].Mode) {
				t.Fatalf("Wants(%d, a, %d): %v: another mode is needed above", k, pages, l)
			}
		}
	}
}

// P1: each call at each number and text.
func TestAnyArguments(t *testing.T) {
	ends(t, "any arguments", func() {
		pages := []*page.Page{nil, on(t), on(t, "a", "x", text(16), text(32)), crowd(t), narrow(t, 0, false), narrow(t, 3, true)}
		for _, n := range ints() {
			table.Name(n)
			for _, s := range texts() {
				table.Home(s, n)
				for _, k := range steps() {
					table.Wants(k, s, n)
				}
			}
		}
		for _, key := range texts() {
			for _, p := range pages {
				table.Get(p, key)
				for _, k := range steps() {
					for _, value := range []string{"", "x", text(32), text(33), text(1 << 16)} {
						planned(t, p, k, key, value)
					}
				}
			}
			for _, to := range texts() {
				ranged(t, pages, key, to)
			}
		}
	})
}
