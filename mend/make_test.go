package mend_test

import (
	"math/rand"
	"testing"

	"flotilla/act"
	"flotilla/api"
	"flotilla/mend"
	"flotilla/page"
)

// 19.1: Make

func TestMakeOfNoPage(t *testing.T) {
	for _, l := range [][]api.Record{
		nil,
		{},
		{update(16, 1, 0, 0, insert("a", "x"))},
		{update(32, 1, 0, 0, insert("a", "x")), update(16, 1, 0, 0, insert("b", "x"))},
	} {
		if n, e := mend.Make(nil, l); n != 0 || e != api.ErrArg {
			t.Errorf("Make of no page by %v: %d, %d", l, n, e)
		}
	}
}

func TestMakeOrdinary(t *testing.T) {
	p := newPage(t, 3)
	makes(t, p, nil, 0, api.OK, 0)
	makes(t, p, []api.Record{}, 0, api.OK, 0)
	l := []api.Record{
		update(16, 1, 0, 3, insert("b", "x")),
		update(17, 2, 0, 3, insert("a", "")),
		update(40, 1, 16, 3, change("b", "x", "y")),
		undo(41, 1, 40, 16, 3, change("b", "y", "x")),
		update(64, 2, 17, 3, remove("a", "")),
		update(1<<60+15, 2, 64, 3, insert("c", text(32))),
	}
	for n := range len(l) + 1 {
		lookMake(t, newPage(t, 3), l[:n])
	}
	makes(t, p, l[:2], 2, api.OK, 17, pair("a", ""), pair("b", "x"))
	makes(t, p, l[:3], 1, api.OK, 40, pair("a", ""), pair("b", "y"))
	makes(t, p, l, 3, api.OK, 1<<60+15, pair("b", "x"), pair("c", text(32)))
	makes(t, p, l, 0, api.OK, 1<<60+15, pair("b", "x"), pair("c", text(32)))
}

// Records that stay or fall, wherever, whosever and of whatever kind: nothing is done.
func TestMakeAsksForRisingRecords(t *testing.T) {
	good := []api.Record{update(16, 1, 0, 3, insert("a", "x")), update(32, 1, 16, 3, insert("b", "x")), update(48, 1, 32, 3, insert("c", "x"))}
	for _, k := range append(everyKind(), 0, 9, -1) {
		for _, id := range []int{3, 4} {
			for at := range 4 {
				for _, step := range []int{-1, 0, 1} {
					var l []api.Record
					l = append(l, good[:at]...)
					x := record(k, 15, 1, 0)
					if at > 0 {
						x.Lsn = l[at-1].Lsn + api.Lsn(step)
					} else {
						x.Lsn = good[0].Lsn - api.Lsn(step)
					}
					x.Page, x.Act = id, insert("z", "")
					l = append(append(l, x), good[at:]...)
					p := newPage(t, 3)
					n, e := lookMake(t, p, l)
					switch {
					case step < 1 && (n != 0 || e != api.ErrArg || len(p.Pairs()) != 0 || p.Lsn() != 0):
						t.Errorf("%v: %d, %d", l, n, e)
					case step == 1 && (n < 3 || e != api.OK):
						t.Errorf("%v: %d, %d", l, n, e)
					}
				}
			}
		}
	}
	// great numbers
	makes(t, newPage(t, 3), []api.Record{update(1<<63, 1, 0, 3, insert("a", "x")), update(1<<63-1, 1, 0, 3, insert("b", "x"))}, 0, api.ErrArg, 0)
	makes(t, newPage(t, 3), []api.Record{update(1<<63-1, 1, 0, 3, insert("a", "x")), update(1<<63, 1, 0, 3, insert("b", "x"))}, 2, api.OK, 1<<63, pair("a", "x"), pair("b", "x"))
}

// Records of other pages, and of other kinds that name the page, change nothing and are no fault, even such as can't be redone.
func TestMakeOfRecordsAmidOthers(t *testing.T) {
	for _, id := range []int{0, 3, 15} {
		var l []api.Record
		at := api.Lsn(16)
		put := func(r api.Record) {
			r.Lsn = at
			at++
			l = append(l, r)
		}
		others := func() {
			for other := -1; other <= 16; other++ {
				if other != id {
					put(update(0, 1, 0, other, remove("nothing", "")))
					put(undo(0, 1, 0, 0, other, insert("a", "z")))
				}
			}
			for _, k := range []api.Kind{-1, 0, api.RecCommit, api.RecAbort, api.RecEnd, api.RecSave, api.RecOpen, api.RecCheck, api.RecCount, 99} {
				x := plain(k, 0, 1, 0)
				put(x)
				x.Page, x.Act = id, remove("nothing", "")
				put(x)
				x.Act = insert("a", "z")
				put(x)
			}
		}
		others()
		put(update(0, 1, 0, id, insert("a", "x")))
		others()
		put(undo(0, 1, 0, 0, id, insert("b", "y")))
		last := at - 1
		others()
		makes(t, newPage(t, id), l, 2, api.OK, last, pair("a", "x"), pair("b", "y"))
	}
}

// Those whose LSN isn't above the page's don't count, even if they couldn't be redone.
func TestMakeOfWhatThePageHas(t *testing.T) {
	l := []api.Record{
		update(16, 1, 0, 3, insert("a", "x")),
		update(32, 1, 16, 3, insert("b", "x")),
		update(48, 1, 32, 3, change("a", "x", "y")),
		update(64, 1, 48, 3, change("b", "x", "y")),
	}
	for stamp := range api.Lsn(80) {
		p := newPage(t, 3)
		for _, r := range l {
			if r.Lsn <= stamp {
				if e := act.Do(p, r.Act); e != api.OK {
					t.Fatal(e)
				}
			}
		}
		p.Stamp(stamp)
		lacked := 0
		for _, r := range l {
			if r.Lsn > stamp {
				lacked++
			}
		}
		makes(t, p, l, lacked, api.OK, max(stamp, 64), pair("a", "y"), pair("b", "y"))
	}
	p := newPage(t, 3)
	p.Stamp(40)
	makes(t, p, []api.Record{update(16, 1, 0, 3, remove("a", "x")), update(40, 1, 0, 3, api.Act{}), update(41, 1, 0, 3, insert("c", ""))}, 1, api.OK, 41, pair("c", ""))
	p.Stamp(1<<64 - 1)
	makes(t, p, []api.Record{update(16, 1, 0, 3, remove("c", "")), update(1<<64-1, 1, 0, 3, remove("c", ""))}, 0, api.OK, 1<<64-1, pair("c", ""))
}

// full is a page that has 13 free bytes.
func full(t *testing.T, id int) *page.Page {
	t.Helper()
	p := newPage(t, id)
	for i := range 14 {
		if e := p.Insert(text(i+1), text(22)); e != api.OK {
			t.Fatal(e)
		}
	}
	if p.Free() != 13 {
		t.Fatal("free bytes:", p.Free())
	}
	return p
}

// The first that can't be redone: its error, how many were done ahead of it, and none behind it.
func TestMakeUpToTheFirstThatCantBe(t *testing.T) {
	for _, kind := range []api.Kind{api.RecUpdate, api.RecUndo} {
		for _, c := range []struct {
			a api.Act
			e api.Errno
		}{
			{insert("a", "y"), api.ErrTwice},
			{insert("new", text(32)), api.ErrFull},
			{change("none", "x", "y"), api.ErrNone},
			{remove("none", "x"), api.ErrNone},
			{change("a", "y", "z"), api.ErrState},
			{remove("a", ""), api.ErrState},
			{change("a", "", text(32)), api.ErrState},
			{api.Act{}, api.ErrArg},
			{insert("", "x"), api.ErrArg},
			{insert(text(17), "x"), api.ErrArg},
			{insert("b", text(33)), api.ErrArg},
			{api.Act{Kind: api.ActInsert, Key: "b", Old: "x", New: "x"}, api.ErrArg},
			{api.Act{Kind: api.ActDelete, Key: "a", Old: "x", New: "x"}, api.ErrArg},
			{api.Act{Kind: api.ActCount, Key: "a"}, api.ErrArg},
		} {
			for ahead := range 4 {
				p := full(t, 3)
				l := []api.Record{update(16, 1, 0, 4, insert("b", "x")), update(17, 1, 0, 3, insert("a", "x"))}
				for i := range ahead {
					l = append(l, update(api.Lsn(32+16*i), 1, 0, 3, change("a", "x", "x")))
				}
				last := l[len(l)-1].Lsn
				bad := update(last+16, 1, 0, 3, c.a)
				bad.Kind = kind
				l = append(l, bad, update(last+32, 1, 0, 3, remove("a", "x")), update(last+48, 1, 0, 3, c.a))
				n, e := lookMake(t, p, l)
				if n != ahead+1 || e != c.e || p.Lsn() != last {
					t.Fatalf("%v: %d, %d, the page is at %d; not %d, %d, %d", l, n, e, p.Lsn(), ahead+1, c.e, last)
				}
				if v, ok := p.Get("a"); !ok || v != "x" {
					t.Fatalf("%v: something behind was done: %v", l, p.Pairs())
				}
				// once more: nothing is done ahead of it any more
				if n, e := lookMake(t, p, l); n != 0 || e != c.e {
					t.Fatalf("%v, once more: %d, %d", l, n, e)
				}
			}
		}
	}
	// an update that has no room
	p := newPage(t, 3)
	l := []api.Record{update(16, 1, 0, 3, insert("a", ""))}
	for i := range 10 {
		l = append(l, update(api.Lsn(17+i), 1, 0, 3, insert(text(i+1), text(32))))
	}
	l = append(l, update(32, 1, 0, 3, insert("b", text(32))), update(33, 1, 0, 3, change("a", "", text(32))), update(34, 1, 0, 3, remove("b", text(32))))
	if n, e := lookMake(t, p, l); n != 12 || e != api.ErrFull || p.Lsn() != 32 {
		t.Fatal("an update without room:", n, e, p.Lsn(), p.Free())
	}
}

// A page that is made twice is one that is made once, also by a beginning of the records ahead, and also where one can't be redone.
func TestMakeTwice(t *testing.T) {
	r := rand.New(rand.NewSource(191))
	faults, done := 0, 0
	for range 3000 {
		l := drawnChanges(r, 30)
		id := r.Intn(3)
		once, twice := newPage(t, id), newPage(t, id)
		if r.Intn(2) == 0 {
			stamp := api.Lsn(r.Intn(200))
			once.Stamp(stamp)
			twice.Stamp(stamp)
		}
		n, e := lookMake(t, once, l)
		k := r.Intn(len(l) + 1)
		a, _ := lookMake(t, twice, l[:k])
		b, e2 := lookMake(t, twice, l)
		if a+b != n || e2 != e || !samePage(once, twice) {
			t.Fatalf("%v, first only %d of them: %d and %d, %d; not %d, %d", l, k, a, b, e2, n, e)
		}
		if again, e3 := lookMake(t, once, l); again != 0 || e3 != e || !samePage(once, twice) {
			t.Fatalf("%v, twice: %d, %d", l, again, e3)
		}
		if e != api.OK {
			faults++
		}
		done += n
	}
	if faults < 300 || faults > 2700 || done < 6000 {
		t.Error("too few faults, or too many, or too little done:", faults, done)
	}
}

// drawnChanges is up to n records that rise, of few pages and keys; most of them can be redone on pages that were new.
func drawnChanges(r *rand.Rand, n int) []api.Record {
	var l []api.Record
	has := [3]map[string]string{{}, {}, {}}
	at := api.Lsn(16)
	for range r.Intn(n + 1) {
		at += api.Lsn(1 + r.Intn(20))
		id := r.Intn(3)
		key, value := string(rune('a'+r.Intn(4))), text(r.Intn(33))
		old, is := has[id][key]
		a := insert(key, value)
		switch {
		case is && r.Intn(2) == 0:
			a = change(key, old, value)
		case is:
			a = remove(key, old)
		}
		if r.Intn(60) == 0 {
			a = []api.Act{insert(key, value), change(key, old, value), remove(key, value), {}}[r.Intn(4)]
		}
		switch a.Kind {
		case api.ActInsert, api.ActUpdate:
			has[id][key] = value
		case api.ActDelete:
			delete(has[id], key)
		}
		x := update(at, 1+r.Intn(3), 0, id, a)
		if r.Intn(3) == 0 {
			x.Kind = api.RecUndo
		}
		l = append(l, x)
		if r.Intn(4) == 0 {
			at++
			l = append(l, record(everyKind()[2+r.Intn(6)], at, 1+r.Intn(3), 0))
		}
	}
	return l
}
