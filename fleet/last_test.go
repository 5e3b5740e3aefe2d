package fleet_test

import (
	"fmt"
	"strconv"
	"strings"
	"testing"

	"flotilla/api"
	"flotilla/fleet"
)

// 21.3: what clients are answered at last

// wantAnswer does a step till it is calm, and holds all of its answer, but the LSN, against what is wanted.
func wantAnswer(t *testing.T, f *fleet.Fleet, s api.Step, kind api.Reply, value string, pairs ...api.Pair) {
	t.Helper()
	a := told(t, f, s)
	if len(a.Pairs) == 0 {
		a.Pairs = nil
	}
	if want := (api.Answer{Step: a.Step, Kind: kind, Value: value, Pairs: pairs, Lsn: a.Lsn}); !same(a, want) {
		t.Errorf("%+v: %+v, want %+v", s, a, want)
	}
}

func TestGetPutInsertDelete(t *testing.T) {
	for _, c := range []api.Config{{Insts: 1, Pages: 1, Frames: 1, Log: 8192}, {Insts: 2, Pages: 5, Frames: 2, Log: 8192}} {
		f := made(t, c)
		okay(t, f, begin(1, 2))
		for _, key := range []string{"a", "b", "1234567890123456", "\x00", "\xff\xff"} {
			wantAnswer(t, f, get(1, 2, key), api.ReplyNone, "")
			wantAnswer(t, f, remove(1, 2, key), api.ReplyNone, "")
			wantAnswer(t, f, put(1, 2, key, "1"), api.ReplyOK, "")
			wantAnswer(t, f, get(1, 2, key), api.ReplyValue, "1")
			wantAnswer(t, f, put(1, 2, key, ""), api.ReplyOK, "")
			wantAnswer(t, f, get(1, 2, key), api.ReplyValue, "")
			wantAnswer(t, f, insert(1, 2, key, "2"), api.ReplyTwice, "")
			wantAnswer(t, f, get(1, 2, key), api.ReplyValue, "")
			wantAnswer(t, f, put(1, 2, key, strings.Repeat("v", 32)), api.ReplyOK, "")
			wantAnswer(t, f, put(1, 2, key, strings.Repeat("v", 32)), api.ReplyOK, "")
			wantAnswer(t, f, remove(1, 2, key), api.ReplyOK, "")
			wantAnswer(t, f, get(1, 2, key), api.ReplyNone, "")
			wantAnswer(t, f, remove(1, 2, key), api.ReplyNone, "")
			wantAnswer(t, f, insert(1, 2, key, "3"), api.ReplyOK, "")
			wantAnswer(t, f, get(1, 2, key), api.ReplyValue, "3")
		}
		wantAnswer(t, f, commit(1, 2), api.ReplyOK, "")
		inst := c.Insts
		okay(t, f, begin(inst, 0))
		wantAnswer(t, f, get(inst, 0, "b"), api.ReplyValue, "3")
		wantAnswer(t, f, get(inst, 0, "c"), api.ReplyNone, "")
		wantAnswer(t, f, insert(inst, 0, "b", "4"), api.ReplyTwice, "")
	}
}

func TestScan(t *testing.T) {
	f := made(t, api.Config{Insts: 2, Pages: 7, Frames: 1, Log: api.MaxLog})
	okay(t, f, begin(1, 0))
	wantAnswer(t, f, scan(1, 0, "", "\xff"), api.ReplyPairs, "")
	var all []api.Pair
	for n := range 30 {
		p := api.Pair{Key: fmt.Sprintf("k%02d", n), Value: strconv.Itoa(n)}
		all = append(all, p)
		okay(t, f, put(1, 0, p.Key, p.Value))
	}
	wantAnswer(t, f, scan(1, 0, "", "\xff"), api.ReplyPairs, "", all...)
	okay(t, f, commit(1, 0))
	for inst := 1; inst <= 2; inst++ {
		okay(t, f, begin(inst, 1))
		wantAnswer(t, f, scan(inst, 1, "", "\xff\xff"), api.ReplyPairs, "", all...)
		wantAnswer(t, f, scan(inst, 1, "k00", "k29"), api.ReplyPairs, "", all...)
		wantAnswer(t, f, scan(inst, 1, "k05", "k05"), api.ReplyPairs, "", all[5])
		wantAnswer(t, f, scan(inst, 1, "k05", "k07"), api.ReplyPairs, "", all[5:8]...)
		wantAnswer(t, f, scan(inst, 1, "k050", "k070"), api.ReplyPairs, "", all[6:8]...)
		wantAnswer(t, f, scan(inst, 1, "k28", strings.Repeat("k", 99)), api.ReplyPairs, "", all[28:]...)
		wantAnswer(t, f, scan(inst, 1, "k07", "k05"), api.ReplyPairs, "")
		wantAnswer(t, f, scan(inst, 1, "l", "z"), api.ReplyPairs, "")
		wantAnswer(t, f, scan(inst, 1, "", ""), api.ReplyPairs, "")
		okay(t, f, put(inst, 1, "k06", "new"), remove(inst, 1, "k05"))
		wantAnswer(t, f, scan(inst, 1, "k05", "k06"), api.ReplyPairs, "", api.Pair{Key: "k06", Value: "new"})
		okay(t, f, abort(inst, 1))
	}
}

func TestSavepoints(t *testing.T) {
	f := made(t, one(2, 3))
	okay(t, f, begin(1, 0))
	value := func(n int) string { return strconv.Itoa(n) }
	for n := range api.MaxSave {
		okay(t, f, put(1, 0, "a", value(n)), put(1, 0, "key"+value(n), value(n)))
		wantAnswer(t, f, save(1, 0), api.ReplyOK, value(n))
	}
	okay(t, f, put(1, 0, "a", "behind"))
	for range 2 { // the fifth
		wantAnswer(t, f, save(1, 0), api.ReplyBad, "")
	}
	for _, none := range []int{4, 5, -1, 1 << 32, 1<<63 - 1, -1 << 63} {
		wantAnswer(t, f, back(1, 0, none), api.ReplyBad, "")
	}
	wantAnswer(t, f, get(1, 0, "a"), api.ReplyValue, "behind")
	wantAnswer(t, f, back(1, 0, 3), api.ReplyOK, "")
	wantAnswer(t, f, get(1, 0, "a"), api.ReplyValue, "3")
	wantAnswer(t, f, back(1, 0, 3), api.ReplyOK, "") // it stays
	wantAnswer(t, f, back(1, 0, 1), api.ReplyOK, "")
	wantAnswer(t, f, get(1, 0, "a"), api.ReplyValue, "1")
	wantAnswer(t, f, get(1, 0, "key2"), api.ReplyNone, "")
	for _, dropped := range []int{2, 3} {
		wantAnswer(t, f, back(1, 0, dropped), api.ReplyBad, "")
	}
	okay(t, f, put(1, 0, "a", "anew"))
	wantAnswer(t, f, save(1, 0), api.ReplyOK, "2")
	okay(t, f, put(1, 0, "a", "more"))
	wantAnswer(t, f, back(1, 0, 2), api.ReplyOK, "")
	wantAnswer(t, f, get(1, 0, "a"), api.ReplyValue, "anew")
	wantAnswer(t, f, back(1, 0, 0), api.ReplyOK, "")
	wantAnswer(t, f, get(1, 0, "a"), api.ReplyValue, "0")
	okay(t, f, put(1, 0, "b", "x"), commit(1, 0))
	wantPairs(t, f, map[string]string{"a": "0", "b": "x", "key0": "0"})
	okay(t, f, begin(1, 0)) // another transaction has none of these
	wantAnswer(t, f, back(1, 0, 0), api.ReplyBad, "")
	wantAnswer(t, f, save(1, 0), api.ReplyOK, "0")
	okay(t, f, commit(1, 0))
}

// A savepoint of what was empty, and of one that only reads.
func TestASavepointAheadOfAll(t *testing.T) {
	f := made(t, one(1, 2))
	okay(t, f, begin(1, 0))
	wantAnswer(t, f, back(1, 0, 0), api.ReplyBad, "")
	wantAnswer(t, f, save(1, 0), api.ReplyOK, "0")
	wantAnswer(t, f, save(1, 0), api.ReplyOK, "1")
	okay(t, f, put(1, 0, "a", "x"), insert(1, 0, "b", "x"), remove(1, 0, "a"))
	wantAnswer(t, f, back(1, 0, 0), api.ReplyOK, "")
	wantAnswer(t, f, scan(1, 0, "", "z"), api.ReplyPairs, "")
	wantAnswer(t, f, back(1, 0, 1), api.ReplyBad, "")
	okay(t, f, commit(1, 0))
	wantMap(t, f)
	okay(t, f, begin(1, 0), save(1, 0), abort(1, 0))
}

func TestAbortTakesAllBack(t *testing.T) {
	f := made(t, one(2, 3))
	okay(t, f, begin(1, 0), put(1, 0, "a", "x"), put(1, 0, "b", "y"), put(1, 0, "c", "z"), commit(1, 0))
	for inst := 1; inst <= 2; inst++ {
		okay(t, f, begin(inst, 0), put(inst, 0, "a", "1"), remove(inst, 0, "b"), insert(inst, 0, "d", "2"), put(inst, 0, "a", "2"), insert(inst, 0, "b", "3"), save(inst, 0), remove(inst, 0, "a"), back(inst, 0, 0), remove(inst, 0, "d"))
		wantAnswer(t, f, abort(inst, 0), api.ReplyOK, "")
		wantPairs(t, f, map[string]string{"a": "x", "b": "y", "c": "z"})
		okay(t, f, begin(inst, 0), abort(inst, 0), begin(inst, 0), commit(inst, 0)) // such as did nothing
	}
}

// fill puts values of 32 bytes onto a page till there is no room: the keys.
func fill(t *testing.T, f *fleet.Fleet, inst, sess, page, pages int) []string {
	t.Helper()
	for n, key := range keysOn(page, pages, 20) {
		a := told(t, f, put(inst, sess, key, strings.Repeat("v", 32)))
		if a.Kind == api.ReplyFull {
			return keysOn(page, pages, 20)[:n]
		}
		if a.Kind != api.ReplyOK {
			t.Fatal(a)
		}
	}
	t.Fatal("no end of room")
	return nil
}

func TestFull(t *testing.T) {
	f := made(t, one(1, 2))
	okay(t, f, begin(1, 0))
	keys := fill(t, f, 1, 0, 1, 2)
	if len(keys) != (512-16)/(4+1+3+32) {
		t.Fatal("keys on the page:", keys)
	}
	before := f.Map()
	free := (512 - 16) % (4 + 1 + 3 + 32) // bytes
	other := keysOn(1, 2, 20)[15]
	for range 2 {
		wantAnswer(t, f, put(1, 0, other, strings.Repeat("v", free-4-4+1)), api.ReplyFull, "")
		wantAnswer(t, f, insert(1, 0, other, strings.Repeat("v", 32)), api.ReplyFull, "")
		wantAnswer(t, f, insert(1, 0, keys[0], strings.Repeat("v", 32)), api.ReplyTwice, "")
	}
	if !same(f.Map(), before) {
		t.Fatal("something has changed:", f.Map())
	}
	okay(t, f, insert(1, 0, other, strings.Repeat("v", free-4-4)))
	wantAnswer(t, f, put(1, 0, other, strings.Repeat("v", free-4-4+1)), api.ReplyFull, "")
	wantAnswer(t, f, get(1, 0, other), api.ReplyValue, strings.Repeat("v", free-4-4))
	okay(t, f, put(1, 0, keys[0], strings.Repeat("v", 31)), put(1, 0, other, strings.Repeat("w", free-4-4+1)))
	okay(t, f, put(1, 0, keyOn(0, 2), strings.Repeat("v", 32)), commit(1, 0), begin(1, 0)) // the other page has room, and the transaction goes on
	okay(t, f, remove(1, 0, keys[3]), insert(1, 0, keys[3], strings.Repeat("u", 32)), commit(1, 0))
}

// A page has 64 slots.
func TestFullOfSlots(t *testing.T) {
	f := made(t, one(1, 1))
	okay(t, f, begin(1, 0))
	for n := range 64 {
		okay(t, f, put(1, 0, string([]byte{byte(n)}), ""))
	}
	wantAnswer(t, f, put(1, 0, "x", ""), api.ReplyFull, "")
	wantAnswer(t, f, insert(1, 0, "x", ""), api.ReplyFull, "")
	wantAnswer(t, f, put(1, 0, "\x07", strings.Repeat("v", 32)), api.ReplyOK, "")
	okay(t, f, remove(1, 0, "\x00"), put(1, 0, "x", ""), commit(1, 0))
}

func TestDown(t *testing.T) {
	for _, busy := range clientSteps(1, 1) {
		if busy.Kind == api.StepSave || busy.Kind == api.StepBack {
			continue // they may be answered at once
		}
		for rounds := range 8 {
			f := made(t, one(2, 1))
			okay(t, f, begin(2, 0), put(2, 0, "a", "x"), commit(2, 0), begin(1, 1), put(1, 1, "c", "z"))
			l := f.Do(busy)
			more, _ := f.Calm(rounds)
			l = append(l, more...)
			down := f.Do(crash(1, 0))
			if len(l)+len(down) != 1 || len(down) == 1 && !same(down[0], api.Answer{Step: 5, Kind: api.ReplyDown, Lsn: down[0].Lsn}) {
				t.Fatalf("%+v behind %d rounds: %v, then %v", busy, rounds, l, down)
			}
			okay(t, f, restart(1, 0), begin(1, 1))
			calm(t, f)
		}
	}
}

// All that an instance does is told ReplyDown, each once, also what waits for a lock.
func TestManyAreDown(t *testing.T) {
	f := made(t, one(2, 4))
	okay(t, f, begin(2, 0), put(2, 0, keyOn(0, 4), "x"), put(2, 0, keyOn(1, 4), "x"))
	for sess := range api.MaxSess {
		okay(t, f, begin(1, sess))
	}
	wantKinds(t, "those who wait", does(t, f, get(1, 0, keyOn(0, 4)), put(1, 1, keyOn(1, 4), "y"), scan(1, 2, "", "z")))
	l := does(t, f, crash(1, 3))
	wantKinds(t, "the crash", l, api.ReplyDown, api.ReplyDown, api.ReplyDown)
	steps := map[int]bool{}
	for _, a := range l {
		steps[a.Step] = true
	}
	if !steps[7] || !steps[8] || !steps[9] {
		t.Fatal("answers", l)
	}
	okay(t, f, recovery(2, 1, 0), put(2, 0, keyOn(2, 4), "x"), commit(2, 0))
}

// Who doesn't commit or abort, or go back, may be a victim. It has no transaction then, and nothing of it is left.
func TestVictims(t *testing.T) {
	a, b := keyOn(0, 2), keyOn(1, 2)
	for _, last := range []api.Step{get(2, 0, a), put(2, 0, a, "2"), insert(2, 0, a, "2"), remove(2, 0, a), scan(2, 0, "", "z")} {
		f := made(t, one(2, 2))
		okay(t, f, begin(1, 0), put(1, 0, b, "0"), commit(1, 0), begin(1, 0), begin(2, 0), save(2, 0), put(1, 0, a, "1"), put(2, 0, b, "2"))
		wantKinds(t, "the first waits", does(t, f, put(1, 0, b, "1")))
		l := does(t, f, last)
		victim := 0
		for _, x := range l {
			if x.Kind == api.ReplyVictim {
				victim = map[int]int{8: 1, 9: 2}[x.Step]
			}
		}
		if len(l) != 2 || victim == 0 || l[0].Step+l[1].Step != 17 {
			t.Fatalf("%+v: %v", last, l)
		}
		for _, s := range clientSteps(victim, 0) {
			wantAtOnce(t, f, s, api.ReplyBad)
		}
		okay(t, f, commit(3-victim, 0), begin(victim, 0))
		wantTold(t, f, back(victim, 0, 0), api.ReplyBad)
		if victim == 2 {
			wantPairs(t, f, map[string]string{a: "1", b: "1"})
		}
	}
}
