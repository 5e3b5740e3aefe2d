package fleet_test

import (
	"testing"

	"flotilla/api"
	"flotilla/fleet"
	"flotilla/page"
)

// 21.6: Calm, Idle, Up, Lost, Log, Disk, Owner, Map

// So many rounds come, but no more than till it is idle; round by round comes to the same as all at once.
func TestCalm(t *testing.T) {
	start := func() *fleet.Fleet {
		f := made(t, one(2, 2))
		for n := 1; n <= 2; n++ {
			f.Do(begin(n, 0))
			f.Do(put(n, 0, keyOn(n-1, 2), "x"))
		}
		return f
	}
	f := start()
	var want []api.Answer
	rounds := 0
	for idle := false; !idle; rounds++ {
		var l []api.Answer
		l, idle = f.Calm(1)
		want = append(want, l...)
		if idle != f.Idle() || rounds > 100 {
			t.Fatal("Calm tells idle:", idle, "behind", rounds)
		}
	}
	wantKinds(t, "round by round", want, api.ReplyOK, api.ReplyOK)
	for n := range rounds + 3 {
		f := start()
		l, idle := f.Calm(n)
		if idle != (n >= rounds) || idle != f.Idle() {
			t.Fatal("of", rounds, "rounds", n, "are idle:", idle)
		}
		if n < rounds {
			more, is := f.Calm(rounds - n)
			if !is {
				t.Fatal("not idle behind", n, "and", rounds-n, "rounds")
			}
			l = append(l, more...)
		}
		if !same(l, want) {
			t.Fatal("answers", l, "want", want)
		}
	}
	for _, n := range []int{0, -1, -1 << 63} {
		f := start()
		before := everything(f, one(2, 2))
		if l, idle := f.Calm(n); len(l) > 0 || idle || everything(f, one(2, 2)) != before {
			t.Fatal("Calm of", n, "rounds:", l, idle)
		}
	}
	l, idle := start().Calm(1<<63 - 1)
	if !idle || !same(l, want) {
		t.Fatal("Calm of all:", l, idle)
	}
}

// Rounds that come by steps are those of Calm.
func TestCalmIsPicks(t *testing.T) {
	c := api.Config{Insts: 3, Pages: 2, Frames: 1, Log: 4096}
	start := func() *fleet.Fleet {
		f := made(t, c)
		for n := range 12 {
			f.Do(begin(1+n%3, n/3))
			f.Do(put(1+n%3, n/3, keyOn(n%2, 2), "x"))
		}
		f.Calm(7)
		for n := range 12 {
			f.Do(commit(1+n%3, n/3))
		}
		return f
	}
	for rounds := range 60 {
		f, g := start(), start()
		want, idle := f.Calm(rounds)
		var got []api.Answer
		for n := 0; n < rounds && !g.Idle(); n++ {
			got = append(got, g.Do(pick(0))...)
		}
		if len(got)+len(want) > 0 && !same(got, want) || idle != g.Idle() || everything(f, c) != everything(g, c) {
			t.Fatal(rounds, "rounds: Calm", want, idle, "steps", got, g.Idle())
		}
	}
}

// With one that is lost Calm ends, too, and who waits for what it had isn't idle.
func TestCalmWithOneThatIsLost(t *testing.T) {
	f := made(t, one(2, 1))
	okay(t, f, begin(1, 0), put(1, 0, "a", "x"), commit(1, 0), begin(2, 0))
	f.Do(crash(1, 0))
	f.Do(get(2, 0, "a"))
	for range 3 {
		if l, idle := f.Calm(1<<63 - 1); len(l) > 0 || idle || f.Idle() {
			t.Fatal("the page is lost, and", l, idle)
		}
	}
	f.Do(recovery(2, 1, 0))
	if l := calm(t, f); len(l) != 1 || l[0].Value != "x" {
		t.Fatal(l)
	}
}

func TestIdle(t *testing.T) {
	f := made(t, one(2, 1))
	idle := func(want bool, what string) {
		t.Helper()
		if f.Idle() != want {
			t.Errorf("%s: idle: %v", what, !want)
		}
	}
	f.Do(begin(1, 0))
	idle(true, "a transaction that does nothing")
	f.Do(put(1, 0, "a", "x"))
	idle(false, "a message under way")
	calm(t, f)
	f.Do(begin(2, 0))
	f.Do(put(2, 0, "a", "y"))
	calm(t, f)
	idle(true, "one that waits for a lock")
	f.Do(clean(1, 0))
	idle(false, "a log that is being written")
	f.Do(pick(1))
	idle(false, "a log that is being written still")
	f.Do(pick(1))
	idle(true, "a log that is written")
	f.Do(commit(1, 0))
	idle(false, "a commit")
	calm(t, f)
	f.Do(commit(2, 0))
	f.Do(crash(2, 0))
	idle(true, "what was under way is lost")
	f.Do(restart(2, 0))
	idle(true, "a restart")
}

func TestUpAndLost(t *testing.T) {
	f := made(t, one(3, 1))
	want := func(up, lost [4]bool) {
		t.Helper()
		for n := range 4 {
			if f.Up(n) != up[n] || f.Lost(n) != lost[n] {
				t.Errorf("%d: up %v, lost %v", n, f.Up(n), f.Lost(n))
			}
		}
	}
	want([4]bool{1: true, 2: true, 3: true}, [4]bool{})
	f.Do(crash(2, 0))
	want([4]bool{1: true, 3: true}, [4]bool{2: true})
	f.Do(crash(1, 0))
	want([4]bool{3: true}, [4]bool{1: true, 2: true})
	f.Do(recovery(3, 1, 0))
	want([4]bool{3: true}, [4]bool{2: true})
	f.Do(restart(1, 0))
	want([4]bool{1: true, 3: true}, [4]bool{2: true})
	f.Do(restart(2, 0))
	want([4]bool{1: true, 2: true, 3: true}, [4]bool{})
	for _, n := range []int{-1, 0, 4, 9, 1 << 40, 1<<63 - 1, -1 << 63} {
		if f.Up(n) || f.Lost(n) || len(f.Log(n)) > 0 {
			t.Error(n, f.Up(n), f.Lost(n), f.Log(n))
		}
	}
}

// A log's records are those that stand there for good, also of one that is down.
func TestLog(t *testing.T) {
	f := made(t, one(2, 1))
	okay(t, f, begin(1, 0), put(1, 0, "a", "x"))
	f.Do(commit(1, 0))
	if l := f.Log(1); len(l) > 0 {
		t.Fatal("nothing is written yet:", l)
	}
	f.Do(pick(1))
	if l := f.Log(1); len(l) > 0 {
		t.Fatal("it isn't written for good yet:", l)
	}
	calm(t, f)
	l := f.Log(1)
	if len(l) < 2 || l[0].Kind != api.RecUpdate || !same(l[0].Act, api.Act{Kind: api.ActInsert, Key: "a", New: "x"}) || l[0].Page != 0 || l[1].Kind != api.RecCommit || l[1].Txn != l[0].Txn {
		t.Fatal("the log:", l)
	}
	okay(t, f, begin(1, 0), put(1, 0, "a", "y"), save(1, 0), put(1, 0, "a", "z"), back(1, 0, 0), abort(1, 0), check(1))
	want := []api.Kind{api.RecUpdate, api.RecSave, api.RecUpdate, api.RecUndo, api.RecAbort, api.RecUndo, api.RecEnd, api.RecOpen, api.RecCheck}
	if got := recordKinds(f.Log(1)); !same(got, append([]api.Kind{api.RecUpdate, api.RecCommit, api.RecEnd}, want...)) {
		t.Fatal("the log:", f.Log(1))
	}
	l = f.Log(1)
	f.Do(crash(1, 0))
	if !same(f.Log(1), l) || len(f.Log(2)) > 0 {
		t.Fatal("the logs behind a crash:", f.Log(1), f.Log(2))
	}
}

func TestDiskAndOwner(t *testing.T) {
	f := made(t, one(2, 2))
	okay(t, f, begin(1, 0), put(1, 0, keyOn(1, 2), "x"), commit(1, 0))
	if p := f.Disk(1); p.Lsn() != 0 || len(p.Pairs()) > 0 || f.Owner(1) != 1 || f.Owner(0) != 0 {
		t.Fatal("written only in memory:", p, f.Owner(1), f.Owner(0))
	}
	okay(t, f, clean(1, 1))
	if p := f.Disk(1); p.Lsn() == 0 || !same(p.Pairs(), []api.Pair{{Key: keyOn(1, 2), Value: "x"}}) || f.Owner(1) != 1 {
		t.Fatal("cleaned:", p, f.Owner(1))
	}
	if p := f.Disk(0); p == nil || p.ID() != 0 || p.Lsn() != 0 {
		t.Fatal("the other one:", p)
	}
	okay(t, f, crash(1, 0))
	if f.Owner(1) != 0 {
		t.Fatal("a page that is lost is", f.Owner(1))
	}
	for _, id := range []int{-1, 2, 3, 16, 1 << 40, 1<<63 - 1, -1 << 63} {
		if f.Disk(id) != nil || f.Owner(id) != 0 {
			t.Error(id, f.Disk(id), f.Owner(id))
		}
	}
}

// Map has what owners have, wherever their pages are at the moment.
func TestMapAtEveryMoment(t *testing.T) {
	for _, fast := range []bool{false, true} {
		f := made(t, api.Config{Insts: 3, Pages: 2, Frames: 1, Log: api.MaxLog, Fast: []bool{fast, fast}})
		a, b := keyOn(0, 2), keyOn(1, 2)
		okay(t, f, begin(1, 0), put(1, 0, a, "x"), put(1, 0, b, "y"), commit(1, 0))
		want := map[string]string{a: "x", b: "y"}
		for inst := 3; inst > 0; inst-- {
			f.Do(begin(inst, 0))
			for _, key := range []string{a, b, a} {
				f.Do(get(inst, 0, key))
				for n := 0; !f.Idle(); n++ {
					f.Do([]api.Step{deliver(1, 0), deliver(2, 0), deliver(3, 0), deliver(0, 1), deliver(0, 2), deliver(0, 3), pick(1), pick(2), pick(3)}[n%9])
					wantPairs(t, f, want)
				}
			}
			okay(t, f, commit(inst, 0))
		}
		for inst := 1; inst <= 3; inst++ { // also of such as crashed, as it lies on the disk, till it is recovered
			f.Do(crash(inst, 0))
		}
		for inst := 1; inst <= 3; inst++ {
			f.Do(restart(inst, 0))
		}
		wantPairs(t, f, want)
	}
}

func TestMapOfWhatIsLost(t *testing.T) {
	f := made(t, one(1, 1))
	okay(t, f, begin(1, 0), put(1, 0, "a", "x"), commit(1, 0), clean(1, 0), begin(1, 0), put(1, 0, "b", "y"))
	wantPairs(t, f, map[string]string{"a": "x", "b": "y"})
	f.Do(crash(1, 0))
	wantPairs(t, f, map[string]string{"a": "x"})
}

// Keys of all bytes are told, also the greatest.
func TestMapHasAllKeys(t *testing.T) {
	f := made(t, one(1, 3))
	want := map[string]string{}
	okay(t, f, begin(1, 0))
	for n := range 16 {
		key := ""
		for range n + 1 {
			key += "\xff"
		}
		want[key] = ""
		okay(t, f, put(1, 0, key, ""))
	}
	want["\x00"] = "x"
	okay(t, f, put(1, 0, "\x00", "x"))
	wantPairs(t, f, want)
}

// Looking changes nothing.
func TestLookingChangesNothing(t *testing.T) {
	c := api.Config{Insts: 2, Pages: 4, Frames: 2, Log: 4096}
	f, g := made(t, c), made(t, c)
	for n := range 80 {
		inst, sess := 1+n%2, n/2%3
		var s api.Step
		switch n * 7 % 5 {
		case 0:
			s = begin(inst, sess)
		case 1:
			s = commit(inst, sess)
		default:
			s = put(inst, sess, keyOn(n*n%4, 4), "x")
		}
		everything(f, c)
		if a, b := f.Do(s), g.Do(s); !same(a, b) {
			t.Fatal(s, a, b)
		}
		everything(f, c)
		a, x := f.Calm(n % 4)
		b, y := g.Calm(n % 4)
		if !same(a, b) || x != y {
			t.Fatal(s, a, b)
		}
	}
	if everything(f, c) != everything(g, c) {
		t.Fatal("otherwise by being looked at")
	}
}

func TestNilFleet(t *testing.T) {
	var f *fleet.Fleet
	ends(t, "a nil fleet", func() {
		for k := api.StepKind(-1); k <= api.StepCount; k++ {
			for inst := range 3 {
				if l := f.Do(api.Step{Kind: k, Inst: inst, N: 1}); len(l) > 0 {
					t.Error(k, l)
				}
			}
		}
		for _, n := range []int{-1, 0, 1, 2, 1 << 40} {
			if l, idle := f.Calm(n); len(l) > 0 || idle {
				t.Error("Calm:", l, idle)
			}
			if f.Up(n) || f.Lost(n) || len(f.Log(n)) > 0 || f.Disk(n) != (*page.Page)(nil) || f.Owner(n) != 0 {
				t.Error("of", n, "something is there")
			}
		}
		if f.Idle() || len(f.Map()) > 0 {
			t.Error("idle, map:", f.Idle(), f.Map())
		}
	})
}
