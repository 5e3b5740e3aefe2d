package fleet_test

import (
	"fmt"
	"strings"
	"testing"

	"flotilla/act"
	"flotilla/api"
	"flotilla/fleet"
	"flotilla/rec"
)

// 21.3, 21.8, 21.9: logs, pages and pools that are nearly full

// needs is how many bytes of a log a change of a page has, and taking it back.
func needs(a api.Act) int {
	r := api.Record{Kind: api.RecUpdate, Lsn: 16, Txn: 1, Act: a}
	back, _ := act.Back(r, 32, 16, 0)
	return rec.Size(r) + rec.Size(back)
}

// putTillFull puts values till the log has no room: how many there were.
func putTillFull(t *testing.T, f *fleet.Fleet, inst, sess int) int {
	t.Helper()
	for n := range 2000 {
		a := told(t, f, put(inst, sess, fmt.Sprintf("k%d", n%8), fmt.Sprintf("%04d", n)))
		if a.Kind == api.ReplyLogFull {
			return n
		}
		if a.Kind != api.ReplyOK {
			t.Fatal(a)
		}
	}
	t.Fatal("the log never gets full")
	return 0
}

func TestALogWithoutRoom(t *testing.T) {
	f := made(t, api.Config{Insts: 1, Pages: 2, Frames: 1, Log: 64})
	okay(t, f, begin(1, 0))
	for range 2 {
		wantAnswer(t, f, put(1, 0, "a", ""), api.ReplyLogFull, "")
		wantAnswer(t, f, insert(1, 0, "a", ""), api.ReplyLogFull, "")
		wantAnswer(t, f, save(1, 0), api.ReplyLogFull, "")
		wantAnswer(t, f, back(1, 0, 0), api.ReplyBad, "")
		wantAnswer(t, f, remove(1, 0, "a"), api.ReplyNone, "")
		wantAnswer(t, f, get(1, 0, "a"), api.ReplyNone, "")
		wantAnswer(t, f, scan(1, 0, "", "z"), api.ReplyPairs, "")
	}
	okay(t, f, commit(1, 0), begin(1, 0), abort(1, 0), check(1), clean(1, 0))
	if len(f.Log(1)) != 0 {
		t.Fatal(f.Log(1))
	}
}

// As long as what is done, what would take it back and its end have room, it is done.
func TestALogHasAllItsRoom(t *testing.T) {
	for _, sectors := range []int{2, 3, 4, 5, 8, 13, 64} {
		f := made(t, api.Config{Insts: 1, Pages: 1, Frames: 1, Log: 64 * sectors})
		okay(t, f, begin(1, 0))
		got := putTillFull(t, f, 1, 0)
		room, want := 64*(sectors-1)-54, 0
		for {
			a := api.Act{Kind: api.ActInsert, Key: "k0", New: "0000"}
			if want >= 8 {
				a.Kind, a.Old = api.ActUpdate, "0000"
			}
			room -= needs(a)
			if room < 0 {
				break
			}
			want++
		}
		if got != want {
			t.Errorf("%d sectors have %d changes, want %d", sectors, got, want)
		}
		okay(t, f, commit(1, 0))
	}
}

func TestAFullLog(t *testing.T) {
	for sectors := 2; sectors < 20; sectors++ {
		for end := range 4 {
			f := made(t, api.Config{Insts: 2, Pages: 2, Frames: 1, Log: 64 * sectors})
			okay(t, f, begin(1, 0))
			putTillFull(t, f, 1, 0)
			before := f.Map()
			wantAnswer(t, f, put(1, 0, "k1", strings.Repeat("v", 32)), api.ReplyLogFull, "")
			for len(before) > 0 { // such need less room
				if a := told(t, f, remove(1, 0, before[0].Key)); a.Kind == api.ReplyLogFull {
					break
				} else if a.Kind != api.ReplyOK {
					t.Fatal(a)
				}
				before = before[1:]
			}
			for n, full := 0, false; !full; n++ { // savepoints are shorter
				a := told(t, f, save(1, 0))
				full = a.Kind == api.ReplyLogFull || n == api.MaxSave
			}
			if !same(f.Map(), before) {
				t.Fatal("something has changed:", f.Map(), before)
			}
			var want []api.Pair
			switch end {
			case 0:
				okay(t, f, commit(1, 0))
				want = before
			case 1:
				okay(t, f, abort(1, 0))
			case 2:
				okay(t, f, clean(1, 0), clean(1, 1), crash(1, 0), restart(1, 0))
			case 3:
				f.Do(commit(1, 0))
				f.Do(crash(1, 0))
				okay(t, f, recovery(2, 1, 0), restart(1, 0))
			}
			wantMap(t, f, want...)
			if len(want) > 0 {
				okay(t, f, begin(2, 0))
				wantAnswer(t, f, get(2, 0, want[0].Key), api.ReplyValue, want[0].Value)
				okay(t, f, commit(2, 0))
			}
			okay(t, f, begin(2, 0))
			putTillFull(t, f, 2, 0) // the other log has room of its own
			okay(t, f, abort(2, 0), crash(2, 0), crash(1, 0), restart(2, 0), restart(1, 0))
			wantMap(t, f, want...)
		}
	}
}

// Room that was kept for a transaction is there for others when it is over, but for what was written.
func TestRoomComesBack(t *testing.T) {
	insert, update := api.Act{Kind: api.ActInsert, Key: "a", New: "x"}, api.Act{Kind: api.ActUpdate, Key: "a", Old: "x", New: "x"}
	for _, sectors := range []int{3, 5, 20, 100} {
		f := made(t, api.Config{Insts: 1, Pages: 1, Frames: 1, Log: 64 * sectors})
		room := 64 * (sectors - 1)
		for n := 0; ; n++ {
			a := update
			if n == 0 {
				a = insert
			}
			okay(t, f, begin(1, 0))
			want := api.ReplyOK
			if room < needs(a)+54 {
				want = api.ReplyLogFull
			}
			wantAnswer(t, f, put(1, 0, "a", "x"), want, "")
			okay(t, f, commit(1, 0))
			if want != api.ReplyOK {
				break
			}
			room -= rec.Size(api.Record{Kind: api.RecUpdate, Lsn: 16, Txn: 1, Act: a}) + 54
		}
	}
}

// A log that one transaction has filled takes what another one needs to come to its end.
func TestTwoShareALog(t *testing.T) {
	for sectors := 3; sectors < 30; sectors++ {
		f := made(t, api.Config{Insts: 1, Pages: 8, Frames: 2, Log: 64 * sectors})
		var keys []string
		for id := range 4 {
			keys = append(keys, keyOn(id, 8))
			okay(t, f, begin(1, id))
		}
		for n := 0; ; n++ {
			a := told(t, f, put(1, n%4, keys[n%4], "x"))
			if a.Kind == api.ReplyLogFull {
				break
			}
		}
		okay(t, f, abort(1, 0), commit(1, 1), abort(1, 2), commit(1, 3))
		for _, p := range f.Map() {
			if p.Key != keys[1] && p.Key != keys[3] {
				t.Fatal(f.Map())
			}
		}
		before := f.Map()
		okay(t, f, crash(1, 0), restart(1, 0))
		wantMap(t, f, before...)
	}
}

// What is taken back may come into other slots than it had, so that more are free than there were: a value that needs all room comes back nevertheless.
func TestTakingBackNeedsNoMoreRoom(t *testing.T) {
	all := make(map[string]string)
	key := func(n int) string { return string([]byte{'A' + byte(n)}) }
	for n := range 13 {
		all[key(n)] = strings.Repeat("v", 32)
	}
	for end := range 5 {
		f := made(t, api.Config{Insts: 2, Pages: 1, Frames: 1, Log: api.MaxLog})
		okay(t, f, begin(1, 0))
		for n := range 13 {
			okay(t, f, put(1, 0, key(n), all[key(n)]))
		}
		okay(t, f, commit(1, 0), begin(1, 0), save(1, 0))
		okay(t, f, put(1, 0, key(0), ""), insert(1, 0, "x", ""), remove(1, 0, key(12)), remove(1, 0, "x"))
		switch end {
		case 0:
			okay(t, f, abort(1, 0))
		case 1:
			okay(t, f, back(1, 0, 0))
			wantPairs(t, f, all)
			okay(t, f, commit(1, 0))
		case 2:
			okay(t, f, clean(1, 0), crash(1, 0), restart(1, 0))
		case 3: // the page lacks what was done and what took it back
			okay(t, f, begin(1, 1), save(1, 1), commit(1, 1))
			f.Do(crash(1, 0))
			okay(t, f, recovery(2, 1, 0))
		case 4: // it lacks the end of that
			okay(t, f, clean(1, 0), abort(1, 0), begin(1, 1), save(1, 1), commit(1, 1))
			f.Do(crash(1, 0))
			f.Do(restart(1, 1))
			okay(t, f, restart(1, 0))
		}
		wantPairs(t, f, all)
		okay(t, f, crash(2, 0), restart(2, 0), begin(2, 0), put(2, 0, key(5), "y"), commit(2, 0), crash(2, 0), restart(2, 0))
		all := map[string]string{key(5): "y"}
		for n := range 13 {
			if n != 5 {
				all[key(n)] = strings.Repeat("v", 32)
			}
		}
		wantPairs(t, f, all)
	}
}

// Pools of one frame: all go on, whatever pages they need.
func TestOneFrame(t *testing.T) {
	for _, fast := range []bool{false, true} {
		c := api.Config{Insts: 3, Pages: 4, Frames: 1, Log: api.MaxLog}
		for range c.Pages {
			c.Fast = append(c.Fast, fast)
		}
		f := made(t, c)
		want := map[string]string{}
		for n := range 40 {
			inst, key := 1+n%3, keyOn(n*7%4, 4)
			value := fmt.Sprint(n)
			okay(t, f, begin(inst, n%4))
			for id := range 4 {
				okay(t, f, put(inst, n%4, keyOn(id, 4)+"x", value))
				want[keyOn(id, 4)+"x"] = value
			}
			okay(t, f, put(inst, n%4, key, value), commit(inst, n%4))
			want[key] = value
			wantPairs(t, f, want)
		}
		for n := 1; n <= 3; n++ { // all at one time
			for sess := range 4 {
				f.Do(begin(n, sess))
				f.Do(scan(n, sess, "", "z"))
			}
		}
		for _, a := range calm(t, f) {
			if a.Kind != api.ReplyPairs || len(a.Pairs) != len(want) {
				t.Fatal(a)
			}
		}
		for n := 1; n <= 3; n++ {
			for sess := range 4 {
				f.Do(commit(n, sess))
			}
		}
		if l := calm(t, f); len(l) != 12 {
			t.Fatal(l)
		}
	}
}
