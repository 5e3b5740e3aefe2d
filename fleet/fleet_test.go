package fleet_test

import (
	"testing"

	"flotilla/api"
	"flotilla/fleet"
)

// The chapter's example, and those of the whole.

func TestExample(t *testing.T) {
	f := made(t, api.Config{Insts: 1, Pages: 1, Frames: 1, Log: 1024})
	l := f.Do(begin(1, 0))
	l = append(l, f.Do(put(1, 0, "a", "x"))...)
	l = append(l, calm(t, f)...)
	wantKinds(t, "Begin, Put", l, api.ReplyOK, api.ReplyOK)
	if l[0].Step != 0 || l[0].Lsn != 16 || l[1].Step != 1 {
		t.Fatal("Begin, Put:", l)
	}
	l = f.Do(commit(1, 0))
	l = append(l, calm(t, f)...)
	wantKinds(t, "Commit", l, api.ReplyOK)
	f.Do(crash(1, 0))
	f.Do(restart(1, 0))
	wantMap(t, f, api.Pair{Key: "a", Value: "x"})
	if !f.Up(1) || f.Lost(1) || !f.Idle() {
		t.Fatal("up, lost, idle:", f.Up(1), f.Lost(1), f.Idle())
	}
}

// two is the fleet of the examples of the whole.
func two(t *testing.T) *fleet.Fleet {
	t.Helper()
	f := made(t, api.Config{Insts: 2, Pages: 1, Frames: 1, Log: 4096})
	okay(t, f, begin(1, 0), put(1, 0, "a", "x"), commit(1, 0))
	return f
}

func TestThePageGoesOver(t *testing.T) {
	f := two(t)
	okay(t, f, begin(2, 0))
	if a := wantTold(t, f, get(2, 0, "a"), api.ReplyValue); a.Value != "x" {
		t.Fatal(a)
	}
	if f.Owner(0) != 2 {
		t.Fatal("the page is", f.Owner(0))
	}
}

func TestTheSecondWaits(t *testing.T) {
	for _, end := range []api.Step{commit(1, 0), abort(1, 0)} {
		f := two(t)
		okay(t, f, begin(1, 0), begin(2, 0), put(1, 0, "a", "y"))
		wantKinds(t, "Put of the second", does(t, f, put(2, 0, "a", "z")))
		l := does(t, f, end)
		wantKinds(t, "the end of the first", l, api.ReplyOK, api.ReplyOK)
		if l[0].Step != 7 || l[1].Step != 6 {
			t.Fatal("answers", l)
		}
		okay(t, f, commit(2, 0))
		wantMap(t, f, api.Pair{Key: "a", Value: "z"})
	}
}

func TestOneOfBothIsTheVictim(t *testing.T) {
	f := made(t, api.Config{Insts: 2, Pages: 2, Frames: 1, Log: 4096})
	a, b := keyOn(0, 2), keyOn(1, 2)
	okay(t, f, begin(1, 0), begin(2, 0), put(1, 0, a, "1"), put(2, 0, b, "2"))
	wantKinds(t, "the first waits", does(t, f, put(1, 0, b, "1")))
	l := does(t, f, put(2, 0, a, "2"))
	wantKinds(t, "both", l, api.ReplyVictim, api.ReplyOK)
	won, lost := 1, 2
	if l[0].Step == 4 {
		won, lost = 2, 1
	}
	if l[0].Step+l[1].Step != 4+5 {
		t.Fatal("answers", l)
	}
	okay(t, f, commit(won, 0))
	wantTold(t, f, commit(lost, 0), api.ReplyBad)
	v := string([]byte{'0' + byte(won)})
	wantPairs(t, f, map[string]string{a: v, b: v})
}

func TestBackToASavepoint(t *testing.T) {
	f := two(t)
	okay(t, f, begin(1, 0), put(1, 0, "b", "y"))
	if a := wantTold(t, f, save(1, 0), api.ReplyOK); a.Value != "0" {
		t.Fatal(a)
	}
	okay(t, f, put(1, 0, "b", "z"), back(1, 0, 0))
	if a := wantTold(t, f, get(1, 0, "b"), api.ReplyValue); a.Value != "y" {
		t.Fatal(a)
	}
}

func TestInsertOfWhatIsThere(t *testing.T) {
	f := two(t)
	okay(t, f, begin(1, 0))
	wantTold(t, f, insert(1, 0, "a", "y"), api.ReplyTwice)
	if a := wantTold(t, f, get(1, 0, "a"), api.ReplyValue); a.Value != "x" {
		t.Fatal(a)
	}
	okay(t, f, put(1, 0, "c", "z"), commit(1, 0))
	wantPairs(t, f, map[string]string{"a": "x", "c": "z"})
}

func TestACrashAheadOfCommit(t *testing.T) {
	f := two(t)
	okay(t, f, begin(1, 0), put(1, 0, "a", "y"), clean(1, 0))
	wantMap(t, f, api.Pair{Key: "a", Value: "y"})
	f.Do(crash(1, 0))
	f.Do(restart(1, 0))
	calm(t, f)
	wantMap(t, f, api.Pair{Key: "a", Value: "x"})
}

func TestACrashOfAll(t *testing.T) {
	f := two(t)
	okay(t, f, begin(2, 0), put(2, 0, "b", "y"), commit(2, 0))
	f.Do(crash(1, 0))
	f.Do(crash(2, 0))
	f.Do(restart(1, 0))
	f.Do(recovery(1, 2, 0))
	calm(t, f)
	wantPairs(t, f, map[string]string{"a": "x", "b": "y"})
	if f.Up(2) || f.Lost(2) {
		t.Fatal("up, lost:", f.Up(2), f.Lost(2))
	}
}

func TestARestartThatIsBrokenOff(t *testing.T) {
	for from := 1; from < 6; from++ {
		f := two(t)
		okay(t, f, begin(1, 0), put(1, 0, "b", "y"), clean(1, 0))
		f.Do(crash(1, 0))
		f.Do(restart(1, from))
		f.Do(restart(1, 0))
		calm(t, f)
		wantPairs(t, f, map[string]string{"a": "x"})
	}
}

func TestAScanWaits(t *testing.T) {
	f := two(t)
	okay(t, f, begin(1, 0), put(1, 0, "c", "y"), begin(2, 0))
	wantKinds(t, "Scan", does(t, f, scan(2, 0, "a", "z")))
	l := does(t, f, commit(1, 0))
	wantKinds(t, "Commit, Scan", l, api.ReplyOK, api.ReplyPairs)
	if !same(l[1].Pairs, []api.Pair{{Key: "a", Value: "x"}, {Key: "c", Value: "y"}}) {
		t.Fatal(l)
	}
}
