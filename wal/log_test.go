package wal_test

import (
	"math"
	"strings"
	"testing"

	"flotilla/api"
	"flotilla/rec"
	"flotilla/wal"
)

func TestExample(t *testing.T) {
	w, d, _ := fresh(t, 192, 0)
	r := commit(33, 7)
	if e := w.Append(r); e != api.OK || w.Room() != 101 {
		t.Fatal("Append:", e, w.Room())
	}
	if !w.Force() || w.Done() != api.OK || w.Stable() != 0 || w.Done() != api.OK || w.Stable() != 33 {
		t.Fatal("not stable")
	}
	if got := wal.Read(d); !same(got, []api.Record{r}) {
		t.Fatal("on its device:", got)
	}
}

// mayNot is records that may not be, each for a reason of its own, all above 1000.
func mayNot() []api.Record {
	change := api.Record{Kind: api.RecUpdate, Lsn: 1001, Txn: 1, Act: api.Act{Kind: api.ActInsert, Key: "k"}}
	var l []api.Record
	add := func(r api.Record, f func(*api.Record)) {
		f(&r)
		l = append(l, r)
	}
	add(commit(1001, 1), func(r *api.Record) { r.Kind = api.RecNone })
	add(commit(1001, 1), func(r *api.Record) { r.Kind = api.RecCount })
	add(commit(1001, 1), func(r *api.Record) { r.Kind = -1 })
	add(commit(1001, 1), func(r *api.Record) { r.Lsn = 1<<60 + 16 })
	add(commit(1001, 1), func(r *api.Record) { r.Lsn = 1<<64 - 1 })
	add(commit(1001, 1), func(r *api.Record) { r.Prev = 1001 })
	add(commit(1001, 1), func(r *api.Record) { r.Undo = 16 })
	add(commit(1001, 1), func(r *api.Record) { r.Txn = 0 })
	add(commit(1001, 1), func(r *api.Record) { r.Txn = api.MaxTxn + 1 })
	add(commit(1001, 1), func(r *api.Record) { r.Page = 1 })
	add(commit(1001, 1), func(r *api.Record) { r.Act.Key = "k" })
	add(commit(1001, 1), func(r *api.Record) { r.Txns = check(1001, 1, 0).Txns })
	add(change, func(r *api.Record) { r.Page = 16 })
	add(change, func(r *api.Record) { r.Act.Key = "" })
	add(change, func(r *api.Record) { r.Act.Key = strings.Repeat("k", 17) })
	add(change, func(r *api.Record) { r.Act.New = strings.Repeat("n", 33) })
	add(change, func(r *api.Record) { r.Act.Old = "o" })
	add(check(1001, 2, 2), func(r *api.Record) { r.Txns[1].ID = 1 })
	add(check(1001, 2, 2), func(r *api.Record) { r.Dirty[1].Rec = 15 })
	add(check(1001, 65, 0), func(r *api.Record) {})
	add(check(1001, 0, 17), func(r *api.Record) {})
	add(api.Record{}, func(r *api.Record) {})
	return l
}

// Both calls refuse the same records, whatever is kept and however little room there is; nothing changes.
func TestAppendAndSpendRefuse(t *testing.T) {
	for _, kept := range []int{0, 40, 2048} {
		w, d, m := fresh(t, 4096, 1)
		for _, l := range []api.Lsn{16, 500, 1000} {
			r := commit(l, 1)
			if w.Append(r) != api.OK || m.lay(r, false) != api.OK {
				t.Fatal("Append")
			}
		}
		forcedAll(t, w)
		m.force()
		m.done()
		m.done()
		if w.Keep(kept) != m.keep(kept) {
			t.Fatal("Keep")
		}
		bad := mayNot()
		for _, l := range []api.Lsn{0, 1, 15, 16, 17, 500, 999, 1000} {
			bad = append(bad, commit(l, 1), sized(t, max(l, 16), 1, 60))
		}
		for _, r := range bad {
			if e := w.Append(r); e != api.ErrArg {
				t.Fatalf("Append(%v): %d", r, e)
			}
			if e := w.Spend(r); e != api.ErrArg {
				t.Fatalf("Spend(%v): %d", r, e)
			}
		}
		m.hold(w, d)
		if e := w.Append(commit(1001, 1)); e != api.OK {
			t.Fatal("the next one:", e)
		}
	}
}

// ErrArg comes ahead of ErrFull.
func TestErrorsInOrder(t *testing.T) {
	w, d, m := fresh(t, 128, 4)
	if w.Append(sized(t, 1000, 1, 60)) != api.OK || m.lay(sized(t, 1000, 1, 60), false) != api.OK {
		t.Fatal("Append")
	}
	for _, call := range []func(api.Record) api.Errno{w.Append, w.Spend} {
		for _, r := range append(mayNot(), commit(1000, 1), sized(t, 999, 1, 116)) {
			if e := call(r); e != api.ErrArg {
				t.Fatalf("of %v without room: %d", r, e)
			}
		}
		if e := call(commit(1001, 1)); e != api.ErrFull {
			t.Fatal("without room:", e)
		}
	}
	for _, n := range []int{-1, math.MinInt, -65} {
		if e := w.Keep(n); e != api.ErrArg {
			t.Fatalf("Keep(%d): %d", n, e)
		}
	}
	m.hold(w, d)
}

func TestAppendUpToTheRoom(t *testing.T) {
	for size := 37; size <= 116; size++ {
		for _, more := range []int{-1, 0, 1} {
			w, d, m := fresh(t, 256, 0)
			leave := size - more // so much room is left
			if e := w.Keep(192 - leave); e != m.keep(192-leave) || e != api.OK {
				t.Fatal("Keep:", e)
			}
			r := sized(t, 16, 1, size)
			e := w.Append(r)
			if e != m.lay(r, false) || (e == api.ErrFull) != (more > 0) {
				t.Fatalf("%d bytes in a room of %d: %d", size, leave, e)
			}
			m.hold(w, d)
		}
	}
}

// The room is all taken by records, without anything kept.
func TestAppendTillFull(t *testing.T) {
	for _, size := range []int{64, 128, 192, 1024} {
		w, d, m := fresh(t, size, 5)
		l := api.Lsn(16)
		for w.Room() >= 128 {
			r := sized(t, l, 2, 64)
			if w.Append(r) != api.OK || m.lay(r, false) != api.OK {
				t.Fatal("Append")
			}
			l++
		}
		left := w.Room()
		if left > 0 {
			for _, c := range []struct {
				size int
				want api.Errno
			}{{left + 1, api.ErrFull}, {left, api.OK}} {
				r := sized(t, l, 2, c.size)
				if e := w.Append(r); e != c.want || m.lay(r, false) != c.want {
					t.Fatalf("%d bytes in a room of %d: %d", c.size, left, e)
				}
			}
			l++
		}
		if w.Room() != 0 || w.Append(commit(l, 1)) != api.ErrFull || w.Keep(1) != api.ErrFull || w.Keep(0) != api.OK {
			t.Fatal("a full log takes more")
		}
		m.hold(w, d)
		if w.Force() != m.force() {
			t.Fatal("Force")
		}
		for range 3 {
			m.hold(w, d)
			if w.Done() != m.done() {
				t.Fatal("Done")
			}
		}
		m.hold(w, d)
	}
}

func TestSpendUpToWhatIsKept(t *testing.T) {
	for size := 37; size <= 116; size++ {
		for _, more := range []int{-1, 0, 1} {
			w, d, m := fresh(t, 256, 0)
			kept := size - more
			if w.Keep(kept) != m.keep(kept) {
				t.Fatal("Keep")
			}
			r := sized(t, 16, 1, size)
			room := w.Room()
			e := w.Spend(r)
			if e != m.lay(r, true) || (e == api.ErrFull) != (more > 0) {
				t.Fatalf("%d bytes of %d: %d", size, kept, e)
			}
			m.hold(w, d)
			if w.Room() != room {
				t.Fatal("what is spent comes out of the room")
			}
		}
	}
}

// Spend takes nothing but what is kept, and Append nothing of it.
func TestRoomAndKeptAreApart(t *testing.T) {
	w, d, m := fresh(t, 256, 6)
	if e := w.Spend(commit(16, 1)); e != api.ErrFull {
		t.Fatal("Spend of nothing:", e)
	}
	if w.Keep(192) != api.OK || m.keep(192) != api.OK {
		t.Fatal("Keep")
	}
	if e := w.Append(commit(16, 1)); e != api.ErrFull {
		t.Fatal("Append without room:", e)
	}
	m.hold(w, d)
	for i := range 7 {
		r := commit(api.Lsn(16+i), 1)
		if e := w.Spend(r); e != api.OK || m.lay(r, true) != api.OK {
			t.Fatal("Spend:", e)
		}
		m.hold(w, d)
	}
	if e := w.Spend(commit(100, 1)); e != api.ErrFull || w.Kept() != 3 {
		t.Fatal("Spend of too few:", e, w.Kept())
	}
	w.Drop(3)
	m.drop(3)
	m.hold(w, d)
}

func TestKeep(t *testing.T) {
	w, d, m := fresh(t, 256, 2)
	mustLay(t, w, commit(16, 1))
	m.lay(commit(16, 1), false)
	keep := func(n int, want api.Errno) {
		t.Helper()
		if e := w.Keep(n); e != want || m.keep(n) != want {
			t.Fatalf("Keep(%d): %d, asked for %d", n, e, want)
		}
		m.hold(w, d)
	}
	keep(-1, api.ErrArg)
	keep(math.MinInt, api.ErrArg)
	keep(math.MaxInt, api.ErrFull)
	keep(166, api.ErrFull)
	keep(0, api.OK)
	keep(100, api.OK)
	keep(66, api.ErrFull)
	keep(math.MaxInt, api.ErrFull)
	keep(65, api.OK)
	keep(0, api.OK)
	keep(1, api.ErrFull)
	keep(-1, api.ErrArg)
	if w.Kept() != 165 || w.Room() != 0 {
		t.Fatal("kept:", w.Kept(), w.Room())
	}
}

func TestDrop(t *testing.T) {
	for _, kept := range []int{0, 1, 50, 192} {
		for _, n := range []int{math.MinInt, -192, -1, 0, 1, 2, 49, 50, 51, 191, 192, 193, math.MaxInt} {
			w, d, m := fresh(t, 256, 2)
			if w.Keep(kept) != m.keep(kept) {
				t.Fatal("Keep")
			}
			w.Drop(n)
			m.drop(n)
			m.hold(w, d)
			if want := kept - min(max(n, 0), kept); w.Kept() != want || w.Room() != 192-want {
				t.Fatalf("%d kept, Drop(%d): %d, %d", kept, n, w.Kept(), w.Room())
			}
		}
	}
}

// The rows of a record that was laid are its giver's own.
func TestRecordsAreCopied(t *testing.T) {
	w, d, m := fresh(t, 2048, 0)
	for i := range 4 {
		r := check(api.Lsn(20*(i+1)), 3, 3)
		want := check(r.Lsn, 3, 3)
		if i%2 == 0 {
			mustLay(t, w, r)
		} else if w.Keep(200) != api.OK || w.Spend(r) != api.OK {
			t.Fatal("Spend")
		}
		if !rec.Same(r, want) {
			t.Fatal("a record was changed")
		}
		spoil([]api.Record{r})
		m.records = append(m.records, want)
		if got := w.Records(); !same(got, m.records) {
			t.Fatal("Records share with what was laid:", got)
		}
	}
	m.keep(200)
	m.keep(200)
	m.kept -= 2 * rec.Size(check(20, 3, 3))
	m.hold(w, d)
	forcedAll(t, w)
	if got := wal.Read(d); !same(got, m.records) {
		t.Fatal("the device has what was written over:", got)
	}
}

func TestAnswersAreTheCallersOwn(t *testing.T) {
	w, d, m := fresh(t, 2048, 0)
	for i := range 3 {
		r := check(api.Lsn(20*(i+1)), 3, 3)
		mustLay(t, w, r)
		m.lay(r, false)
	}
	first, second := w.Records(), w.Records()
	spoil(first)
	if !same(second, m.records) {
		t.Fatal("two answers share memory")
	}
	m.hold(w, d)
	for _, l := range []api.Lsn{20, 40, 60} {
		a, _ := w.Find(l)
		b, _ := w.Find(l)
		spoil([]api.Record{a})
		if !rec.Same(b, check(l, 3, 3)) {
			t.Fatal("two answers of Find share memory")
		}
	}
	m.hold(w, d)
	w.Force()
	m.force()
	spoil(w.Records())
	m.hold(w, d)
}

// Rows at their limits, and without any: nil and empty are one.
func TestRowsOfRecords(t *testing.T) {
	w, d, m := fresh(t, 4096, 3)
	empty := api.Record{Kind: api.RecCheck, Lsn: 17, Txns: []api.Txn{}, Dirty: []api.Dirty{}}
	for _, r := range []api.Record{empty, check(33, 64, 16), check(49, 0, 16), check(65, 64, 0), commit(1<<60+15, api.MaxTxn)} {
		if w.Append(r) != api.OK || m.lay(r, false) != api.OK {
			t.Fatal("Append:", r)
		}
		m.hold(w, d)
	}
	if e := w.Append(commit(1<<60+15, 1)); e != api.ErrArg {
		t.Fatal("behind the greatest:", e)
	}
	forcedAll(t, w)
	if got := wal.Read(d); !same(got, m.records) {
		t.Fatal("on its device:", got)
	}
}

func TestFind(t *testing.T) {
	for n := range 20 {
		w, _, _ := fresh(t, 2048, 0)
		for i := range n {
			mustLay(t, w, sized(t, api.Lsn(100+3*i), i+1, 37+i))
		}
		for l := api.Lsn(0); l < 200; l++ {
			r, ok := w.Find(l)
			i := (int(l) - 100) / 3
			there := l >= 100 && (l-100)%3 == 0 && i < n
			if ok != there || !ok && !isZero(r) {
				t.Fatalf("Find(%d) of %d: %v, %v", l, n, r, ok)
			}
			if ok && !rec.Same(r, sized(t, l, i+1, 37+i)) {
				t.Fatalf("Find(%d) of %d: %v", l, n, r)
			}
		}
		if r, ok := w.Find(1<<64 - 1); ok || !isZero(r) {
			t.Fatal("Find of the greatest:", r)
		}
	}
}

func TestAtFirst(t *testing.T) {
	for _, size := range []int{64, 128, api.MaxBytes} {
		for hand := range api.MaxInst {
			w, _, _ := fresh(t, size, hand)
			if w.Stable() != 0 || w.Last() != 0 || len(w.Records()) != 0 || w.Room() != size-64 || w.Kept() != 0 || w.Flying() {
				t.Fatal("a new log of", size)
			}
			if w.Force() || w.Done() != api.ErrNone || w.Flying() {
				t.Fatal("nothing is there to be forced")
			}
			if r, ok := w.Find(0); ok || !isZero(r) {
				t.Fatal("Find of 0:", r)
			}
		}
	}
}

func TestNilLog(t *testing.T) {
	var w *wal.Log
	for _, e := range []api.Errno{
		w.Append(commit(33, 7)), w.Append(api.Record{}),
		w.Spend(commit(33, 7)), w.Spend(api.Record{}),
		w.Keep(0), w.Keep(1), w.Keep(-1), w.Done(),
	} {
		if e != api.ErrArg {
			t.Fatal("a nil log tells", e)
		}
	}
	for _, n := range []int{math.MinInt, -1, 0, 1, math.MaxInt} {
		w.Drop(n)
	}
	if w.Room() != 0 || w.Kept() != 0 || w.Force() || w.Flying() || w.Stable() != 0 || w.Last() != 0 || len(w.Records()) != 0 {
		t.Fatal("a nil log has something")
	}
	for _, l := range []api.Lsn{0, 16, 33, 1<<64 - 1} {
		if r, ok := w.Find(l); ok || !isZero(r) {
			t.Fatal("a nil log finds", r)
		}
	}
}
