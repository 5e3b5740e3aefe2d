package fleet_test

import (
	"testing"

	"flotilla/api"
)

// 21.4: numbers of transactions, and of other answers

// Commits have numbers that no other one has, on several instances, also of such as changed nothing, and behind crashes.
func TestNumbersOfCommits(t *testing.T) {
	for insts := 1; insts <= 8; insts++ {
		f := made(t, one(insts, 2))
		come := map[api.Lsn]bool{}
		for n := range 40 {
			inst := 1 + n%insts
			okay(t, f, begin(inst, 0))
			if n%3 > 0 {
				okay(t, f, put(inst, 0, keyOn(n%2, 2), "x"))
			} else {
				told(t, f, get(inst, 0, "a"))
			}
			own := told(t, f, commit(inst, 0)).Lsn
			if own == 0 || come[own] {
				t.Fatal("of", inst, "the number", own, "which others have:", come)
			}
			come[own] = true
			if n%5 == 4 {
				other := 1 + (n/5)%insts
				okay(t, f, crash(other, n%3), restart(other, 0))
			}
		}
	}
}

// Who is told of what others have done is told with a number above theirs.
func TestNumbersOfAnswers(t *testing.T) {
	asks := func(inst, sess int, key string) []api.Step {
		return []api.Step{
			get(inst, sess, key), get(inst, sess, "other"), put(inst, sess, key, "y"), insert(inst, sess, key, "z"), remove(inst, sess, key), remove(inst, sess, key),
			scan(inst, sess, "", "\xff"), save(inst, sess), back(inst, sess, 0), back(inst, sess, 7), put(inst, sess, "", ""), insert(inst, sess, key, "z"),
		}
	}
	for _, c := range []api.Config{one(1, 1), one(2, 1), one(3, 4), {Insts: 3, Pages: 2, Frames: 1, Log: api.MaxLog, Fast: []bool{true, true}}} {
		f := made(t, c)
		past := api.Lsn(0)
		for n := range 30 {
			inst := 1 + n*n%c.Insts
			okay(t, f, begin(inst, 0))
			for _, s := range asks(inst, 0, keyOn(n%c.Pages, c.Pages)) {
				if a := told(t, f, s); a.Lsn <= past {
					t.Fatalf("%+v: %+v behind %d", s, a, past)
				}
			}
			if n%4 == 3 {
				if a := told(t, f, abort(inst, 0)); a.Lsn <= past {
					t.Fatal("Abort:", a, past)
				}
				continue
			}
			own := told(t, f, commit(inst, 0)).Lsn
			if own <= past {
				t.Fatal("Commit:", own, past)
			}
			past = own
		}
	}
}

// Who waited for another one stands behind it; so does a victim's last answer, and what is told behind a recovery.
func TestNumbersBehindOthers(t *testing.T) {
	f := made(t, one(3, 1))
	okay(t, f, begin(1, 0), begin(2, 0), begin(3, 0), put(1, 0, "a", "1"))
	f.Do(put(2, 0, "a", "2"))
	calm(t, f)
	l := does(t, f, commit(1, 0))
	wantKinds(t, "Commit, Put", l, api.ReplyOK, api.ReplyOK)
	if l[1].Lsn <= l[0].Lsn {
		t.Fatal(l)
	}
	first := l[0].Lsn
	f.Do(scan(3, 0, "", "z"))
	calm(t, f)
	l = does(t, f, commit(2, 0))
	wantKinds(t, "Commit, Scan", l, api.ReplyOK, api.ReplyPairs)
	if l[1].Lsn <= l[0].Lsn || l[0].Lsn <= first {
		t.Fatal(l)
	}
	second := l[0].Lsn
	okay(t, f, commit(3, 0), crash(1, 0), crash(2, 0), crash(3, 0), restart(1, 0), recovery(1, 2, 0), recovery(1, 3, 0), begin(1, 0))
	if a := told(t, f, get(1, 0, "a")); a.Value != "2" || a.Lsn <= second {
		t.Fatal(a, second)
	}
}

// Who begins when another one has been told that it committed stands behind it, whatever it does, and wherever.
func TestNumbersOfThoseWhoBeginBehind(t *testing.T) {
	f := made(t, one(4, 3))
	for n := range 30 {
		inst := 1 + n%4
		okay(t, f, begin(inst, 0), put(inst, 0, keyOn(n%3, 3), "x"))
		own := told(t, f, commit(inst, 0)).Lsn
		other := 1 + (n*3+1)%4
		okay(t, f, begin(other, 1))
		if a := told(t, f, get(other, 1, keyOn((n+1)%3, 3))); a.Lsn <= own {
			t.Fatal("Get:", a, own)
		}
		if a := told(t, f, commit(other, 1)); a.Lsn <= own {
			t.Fatal("Commit:", a, own)
		}
	}
}

// What an instance tells rises, also behind crashes.
func TestNumbersOfAnInstanceRise(t *testing.T) {
	f := made(t, one(2, 1))
	var past [3]api.Lsn
	for n := range 60 {
		inst := 1 + n*n%3%2
		s := []api.Step{begin(inst, 0), put(inst, 0, "a", "x"), save(inst, 0), abort(inst, 0)}[n%4]
		for _, a := range does(t, f, s) {
			if a.Kind == api.ReplyVictim || a.Lsn <= past[inst] {
				t.Fatal(inst, s, a, past)
			}
			past[inst] = a.Lsn
		}
		if n%5 == 4 {
			okay(t, f, crash(inst, 0), restart(inst, 0))
		}
	}
}

// What takes something back behind a crash has numbers that nobody was told.
func TestNumbersOfWhatTakesBack(t *testing.T) {
	f := made(t, one(2, 1))
	okay(t, f, begin(1, 0), put(1, 0, "a", "x"), clean(1, 0))
	past := told(t, f, get(1, 0, "a")).Lsn
	okay(t, f, crash(1, 0), recovery(2, 1, 0))
	l := f.Log(1)
	for _, r := range l[1:] {
		if r.Lsn <= past {
			t.Fatal(past, "was told, and the log has", l)
		}
	}
	if got := recordKinds(l); !same(got, []api.Kind{api.RecUpdate, api.RecAbort, api.RecUndo, api.RecEnd}) {
		t.Fatal("the log has", l)
	}
	okay(t, f, begin(2, 0))
	if a := told(t, f, get(2, 0, "a")); a.Lsn <= l[3].Lsn {
		t.Fatal(a, "behind", l)
	}
}

func recordKinds(l []api.Record) []api.Kind {
	var all []api.Kind
	for _, r := range l {
		all = append(all, r.Kind)
	}
	return all
}

// A victim of its first step has nothing but its Begin: that stands behind those who were told ahead of it that they committed.
func TestNumberOfAVictimOfItsFirstStep(t *testing.T) {
	for first := 1; first <= 2; first++ {
		w := newWorld(t, one(2, 1))
		for range 5 {
			w.do(begin(1, 0))
			w.do(put(1, 0, "a", "x"))
			w.calmly()
			w.do(commit(1, 0))
			w.calmly()
		}
		second := 3 - first
		w.do(begin(first, 1))
		w.do(get(first, 1, "a"))
		w.calmly()
		w.do(begin(second, 2))
		w.do(put(second, 2, "a", "y"))
		w.calmly()
		w.do(put(first, 1, "a", "z"))
		w.calmly()
		w.do(scan(first, 1, "", "z"))
		w.calmly()
		w.endPlainly()
		w.serial()
	}
}

// A client that asks for more while its commit is on its way isn't told a number that is above those who came behind it.
func TestNumberOfAStepThatMayNotBeBehindACommit(t *testing.T) {
	w := newWorld(t, api.Config{Insts: 2, Pages: 2, Frames: 1, Log: api.MaxLog})
	a, b := keyOn(0, 2), keyOn(1, 2)
	for _, s := range []api.Step{begin(1, 0), begin(2, 0), put(1, 0, a, "1"), get(1, 0, b), get(2, 0, a)} {
		w.do(s)
		w.calmly()
	}
	others := func() { // all goes on, but that the first one is told nothing
		for range 10 {
			for _, s := range []api.Step{pick(1), pick(2), deliver(1, 0), deliver(2, 0), deliver(0, 2)} {
				w.do(s)
			}
		}
	}
	for _, s := range []api.Step{commit(1, 0), put(2, 0, a, "2"), commit(2, 0)} {
		w.do(s)
		others()
	}
	if w.heard[api.ReplyValue] != 1 || w.deals[1].fate != committed || !w.seats[1][0].waits {
		t.Fatal("the second one doesn't stand behind the first one:", w.heard)
	}
	for _, s := range []api.Step{begin(1, 1), begin(1, 2), begin(1, 3), get(1, 0, a), put(1, 0, "", ""), crash(1, 0)} {
		w.do(s)
	}
	w.endPlainly()
	w.serial()
}
