package fleet_test

import (
	"maps"
	"slices"
	"testing"

	"flotilla/api"
	"flotilla/fleet"
)

// 21.10: it ends

// seatsOf is so many sessions, one on each instance first.
func seatsOf(n, insts int) [][2]int {
	var l [][2]int
	for k := range n {
		l = append(l, [2]int{1 + k%insts, k / insts})
	}
	return l
}

// finish has all who wait be told something, as long as those who don't commit: how many victims there were. Some were told already.
func finish(t *testing.T, f *fleet.Fleet, seats [][2]int, waits map[int]int, told ...api.Answer) int {
	t.Helper()
	victims, open := 0, make([]bool, len(seats))
	for n := range seats {
		open[n] = true
	}
	take := func(l []api.Answer) {
		for _, a := range l {
			n, is := waits[a.Step]
			if !is {
				continue
			}
			delete(waits, a.Step)
			if a.Kind == api.ReplyVictim {
				victims++
				open[n] = false
			}
		}
	}
	take(told)
	take(calm(t, f))
	for slices.Contains(open, true) {
		did := false
		for n, at := range seats {
			if !open[n] || slices.Contains(slices.Collect(maps.Values(waits)), n) {
				continue
			}
			did, open[n] = true, false
			f.Do(commit(at[0], at[1]))
			take(calm(t, f))
		}
		if !did {
			t.Fatal("all wait:", waits)
		}
	}
	if len(waits) > 0 {
		t.Fatal("no answers to", waits)
	}
	return victims
}

// Rings of two and more, over one instance and several: one is taken back, and nobody else.
func TestRings(t *testing.T) {
	for insts := 1; insts <= 8; insts++ {
		for size := 2; size <= min(16, 4*insts); size++ {
			for turn := range 2 {
				f := made(t, api.Config{Insts: insts, Pages: 16, Frames: 1, Log: 8192})
				seats, waits, steps := seatsOf(size, insts), map[int]int{}, 0
				var early []api.Answer
				for n, at := range seats {
					okay(t, f, begin(at[0], at[1]), put(at[0], at[1], keyOn(n, 16), "x"))
					steps += 2
				}
				for n, at := range seats {
					if turn == 1 {
						n, at = size-1-n, seats[size-1-n]
					}
					f.Do(put(at[0], at[1], keyOn((n+1)%size, 16), "y"))
					waits[steps] = n
					steps++
					if n%3 == 0 {
						l, _ := f.Calm(5)
						early = append(early, l...)
					}
				}
				if v := finish(t, f, seats, waits, early...); v != 1 {
					t.Fatalf("%d instances, a ring of %d: %d victims", insts, size, v)
				}
			}
		}
	}
}

// Many who have read a page want to write it: all but one are taken back.
func TestRingsOfThoseWhoHaveReadOnePage(t *testing.T) {
	for _, all := range []bool{false, true} {
		for size := 2; size <= 12; size++ {
			f := made(t, api.Config{Insts: 3, Pages: 2, Frames: 1, Log: 8192})
			seats, waits, steps := seatsOf(size, 3), map[int]int{}, 0
			for _, at := range seats {
				okay(t, f, begin(at[0], at[1]))
				if all {
					told(t, f, scan(at[0], at[1], "", "z"))
				} else {
					told(t, f, get(at[0], at[1], "a"))
				}
				steps += 2
			}
			for n, at := range seats {
				f.Do(put(at[0], at[1], "a", "x"))
				waits[steps] = n
				steps++
			}
			if v := finish(t, f, seats, waits); v != size-1 {
				t.Fatalf("of %d %d are victims", size, v)
			}
			wantPairs(t, f, map[string]string{"a": "x"})
		}
	}
}

// Who only waits in a row is no victim, however long that is.
func TestNoRingNoVictim(t *testing.T) {
	f := made(t, api.Config{Insts: 4, Pages: 3, Frames: 1, Log: 8192})
	okay(t, f, begin(1, 3), put(1, 3, "a", "x"))
	seats, waits, steps := seatsOf(12, 4), map[int]int{}, 2
	for _, at := range seats {
		f.Do(begin(at[0], at[1]))
		steps++
	}
	for n, at := range seats {
		s := put(at[0], at[1], "a", "y")
		switch n % 3 {
		case 1:
			s = get(at[0], at[1], "a")
		case 2:
			s = scan(at[0], at[1], "", "z")
		}
		f.Do(s)
		waits[steps] = n
		steps++
	}
	if l := calm(t, f); len(l) > 0 {
		t.Fatal("told while the first has it:", l)
	}
	f.Do(commit(1, 3))
	if v := finish(t, f, seats, waits); v != 0 {
		t.Fatal(v, "victims")
	}
}

// A ring that one is in who crashes is over when it is recovered; who waited for it goes on.
func TestARingAndACrash(t *testing.T) {
	for crashed := 1; crashed <= 2; crashed++ {
		for rounds := range 12 {
			f := made(t, api.Config{Insts: 3, Pages: 2, Frames: 1, Log: 8192})
			a, b := keyOn(0, 2), keyOn(1, 2)
			okay(t, f, begin(1, 0), begin(2, 0), put(1, 0, a, "1"), put(2, 0, b, "2"))
			f.Do(put(1, 0, b, "1"))
			f.Do(put(2, 0, a, "2"))
			l, _ := f.Calm(rounds)
			l = append(l, f.Do(crash(crashed, 0))...)
			more, _ := f.Calm(1000)
			l = append(l, more...)
			f.Do(recovery(3, crashed, 0))
			l = append(l, calm(t, f)...)
			if len(l) != 2 || l[0].Step+l[1].Step != 4+5 {
				t.Fatal("answers", l)
			}
			okay(t, f, begin(3, 0), restart(crashed, 0))
			f.Do(put(3, 0, a, "3"))
			f.Do(commit(3-crashed, 0))
			calm(t, f)
			okay(t, f, put(3, 0, b, "3"), commit(3, 0))
			wantPairs(t, f, map[string]string{a: "3", b: "3"})
		}
	}
}
