package fleet_test

import (
	"strings"
	"testing"

	"flotilla/api"
	"flotilla/fleet"
)

// 21.2: what clients are answered at once

// clientSteps is a step of each kind that a client takes, but Begin.
func clientSteps(inst, sess int) []api.Step {
	return []api.Step{
		get(inst, sess, "a"), put(inst, sess, "a", "x"), insert(inst, sess, "a", "x"), remove(inst, sess, "a"), scan(inst, sess, "a", "z"),
		save(inst, sess), back(inst, sess, 0), abort(inst, sess), commit(inst, sess),
	}
}

// wantAtOnce does a step that is told at once, and nothing else.
func wantAtOnce(t *testing.T, f *fleet.Fleet, s api.Step, want api.Reply) {
	t.Helper()
	if l := f.Do(s); len(l) != 1 || l[0].Kind != want || l[0].Value != "" || len(l[0].Pairs) != 0 {
		t.Errorf("%+v: %v, want kind %d at once", s, l, want)
	}
}

func TestNoSuchInstanceOrSession(t *testing.T) {
	f := made(t, one(2, 1))
	okay(t, f, begin(1, 0), begin(2, 3))
	before := everything(f, one(2, 1))
	for _, at := range [][2]int{{0, 0}, {-1, 0}, {3, 0}, {9, 1}, {1<<63 - 1, 0}, {-1 << 63, 0}, {1, -1}, {1, 4}, {2, 5}, {2, 1<<63 - 1}, {1, -1 << 63}, {0, -1}, {3, 4}, {1<<32 + 1, 0}, {1, 1 << 32}} {
		for _, s := range append(clientSteps(at[0], at[1]), begin(at[0], at[1])) {
			wantAtOnce(t, f, s, api.ReplyBad)
		}
	}
	if everything(f, one(2, 1)) != before {
		t.Error("something has changed")
	}
}

func TestAnInstanceThatIsDown(t *testing.T) {
	f := made(t, one(2, 1))
	okay(t, f, begin(2, 0), begin(1, 0))
	f.Do(crash(2, 0))
	for lost := range 2 {
		for sess := range api.MaxSess {
			for _, s := range append(clientSteps(2, sess), begin(2, sess), put(2, sess, "", ""), get(2, sess, "12345678901234567"), back(2, sess, 99)) {
				wantAtOnce(t, f, s, api.ReplyDown)
			}
		}
		wantAtOnce(t, f, begin(2, 4), api.ReplyBad)
		wantAtOnce(t, f, begin(2, -1), api.ReplyBad)
		wantAtOnce(t, f, get(1, 0, ""), api.ReplyBad)
		if f.Lost(2) != (lost == 0) {
			t.Fatal("lost:", f.Lost(2))
		}
		f.Do(recovery(1, 2, 0))
	}
	f.Do(restart(2, 0))
	wantAtOnce(t, f, commit(2, 0), api.ReplyBad)
	wantAtOnce(t, f, begin(2, 0), api.ReplyOK)
}

func TestASessionThatDoesSomething(t *testing.T) {
	for _, busy := range []api.Step{get(1, 1, "b"), put(1, 1, "a", "y"), insert(1, 1, "b", "y"), remove(1, 1, "a"), scan(1, 1, "a", "z"), commit(1, 1), abort(1, 1)} {
		f := made(t, one(2, 1))
		okay(t, f, begin(2, 0), put(2, 0, "a", "x"), commit(2, 0), begin(1, 1), put(1, 1, "c", "z"))
		if l := f.Do(busy); len(l) != 0 {
			t.Fatalf("%+v: %v", busy, l)
		}
		for round := 0; !f.Idle(); round++ {
			for _, s := range append(clientSteps(1, 1), begin(1, 1), put(1, 1, "", "")) {
				wantAtOnce(t, f, s, api.ReplyBad)
			}
			l, _ := f.Calm(1)
			if len(l) > 0 && (len(l) != 1 || l[0].Step != 5) {
				t.Fatalf("%+v: %v", busy, l)
			}
			if len(l) > 0 {
				break
			}
			if round > 100 {
				t.Fatalf("%+v goes on and on", busy)
			}
		}
		if busy.Kind == api.StepCommit || busy.Kind == api.StepAbort {
			wantAtOnce(t, f, begin(1, 1), api.ReplyOK)
		} else {
			wantAtOnce(t, f, begin(1, 1), api.ReplyBad)
		}
		calm(t, f)
	}
}

// One that waits for a lock does something, too.
func TestASessionThatWaits(t *testing.T) {
	f := made(t, one(2, 1))
	okay(t, f, begin(2, 0), put(2, 0, "a", "x"), begin(1, 1))
	wantKinds(t, "Get", does(t, f, get(1, 1, "b")))
	for _, s := range append(clientSteps(1, 1), begin(1, 1)) {
		wantAtOnce(t, f, s, api.ReplyBad)
	}
	l := does(t, f, commit(2, 0))
	wantKinds(t, "Commit, Get", l, api.ReplyOK, api.ReplyNone)
}

func TestWithAndWithoutATransaction(t *testing.T) {
	f := made(t, one(1, 1))
	without := func(sess int) {
		for _, s := range clientSteps(1, sess) {
			wantAtOnce(t, f, s, api.ReplyBad)
		}
	}
	for sess := range api.MaxSess {
		without(sess)
		wantAtOnce(t, f, begin(1, sess), api.ReplyOK)
		wantAtOnce(t, f, begin(1, sess), api.ReplyBad)
	}
	for _, end := range []api.Step{commit(1, 0), abort(1, 1)} {
		okay(t, f, put(1, end.Sess, "a", "x"))
		wantAtOnce(t, f, begin(1, end.Sess), api.ReplyBad)
		okay(t, f, end)
		without(end.Sess)
		wantAtOnce(t, f, begin(1, end.Sess), api.ReplyOK)
	}
}

func TestKeysAndValuesThatAPageCantHave(t *testing.T) {
	f := made(t, one(1, 3))
	okay(t, f, begin(1, 0))
	key, value := strings.Repeat("k", api.MaxKey), strings.Repeat("v", api.MaxValue)
	for _, bad := range []string{"", key + "k", strings.Repeat("k", 1000)} {
		for _, s := range []api.Step{get(1, 0, bad), put(1, 0, bad, "x"), insert(1, 0, bad, "x"), remove(1, 0, bad)} {
			wantAtOnce(t, f, s, api.ReplyBad)
		}
		if a := told(t, f, scan(1, 0, bad, bad)); a.Kind != api.ReplyPairs {
			t.Errorf("Scan from %q: %v", bad, a)
		}
	}
	for _, bad := range []string{value + "v", strings.Repeat("v", 1000)} {
		wantAtOnce(t, f, put(1, 0, "a", bad), api.ReplyBad)
		wantAtOnce(t, f, insert(1, 0, "a", bad), api.ReplyBad)
		wantTold(t, f, api.Step{Kind: api.StepGet, Inst: 1, Key: "a", Value: bad}, api.ReplyNone)
		wantTold(t, f, api.Step{Kind: api.StepDelete, Inst: 1, Key: "a", Value: bad}, api.ReplyNone)
	}
	wantMap(t, f)
	okay(t, f, put(1, 0, key, value), insert(1, 0, "\x00", ""), put(1, 0, "\xff", "\xff\x00"))
	wantPairs(t, f, map[string]string{key: value, "\x00": "", "\xff": "\xff\x00"})
	okay(t, f, commit(1, 0))
}

// What doesn't belong to a step changes nothing.
func TestFieldsOfOtherSteps(t *testing.T) {
	f := made(t, one(1, 1))
	all := func(s api.Step) api.Step {
		s.From, s.N = 3, 2
		if s.Key == "" {
			s.Key, s.Value = "far too long for a key", strings.Repeat("v", 99)
		}
		return s
	}
	okay(t, f, all(begin(1, 0)), all(put(1, 0, "a", "x")), all(save(1, 0)), all(commit(1, 0)), all(begin(1, 0)))
	if a := told(t, f, all(get(1, 0, "a"))); a.Value != "x" {
		t.Fatal(a)
	}
	okay(t, f, all(abort(1, 0)))
}
