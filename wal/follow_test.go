package wal_test

import (
	"math"
	"math/rand"
	"testing"

	"flotilla/api"
	"flotilla/rec"
	"flotilla/stable"
	"flotilla/wal"
)

// laidOut is a row of records with frames of these lengths.
func laidOut(t *testing.T, from api.Lsn, txn int, sizes ...int) []api.Record {
	t.Helper()
	var l []api.Record
	for i, n := range sizes {
		l = append(l, sized(t, from+api.Lsn(16*i), txn, n))
	}
	return l
}

// A crash behind any number of sectors: the records that were stable, or those that were being forced too.
func TestCrashAtEachSector(t *testing.T) {
	for _, was := range [][]int{nil, {27}, {64}, {37, 60}, {64, 64}, {100, 92}} {
		for _, forced := range [][]int{{27}, {37, 64}, {116, 116, 27}, {64, 64, 64}, {101, 40, 27, 27, 90}} {
			for dones := range 2 {
				for sectors := -1; sectors <= 8; sectors++ {
					crashAt(t, was, forced, dones, sectors)
				}
			}
		}
	}
}

func crashAt(t *testing.T, was, forced []int, dones, sectors int) {
	t.Helper()
	d := device(t, 1024, nil)
	w, _ := wal.Open(d, 4)
	old := laidOut(t, 16, 1, was...)
	mustLay(t, w, old...)
	if len(old) > 0 {
		forcedAll(t, w)
	}
	more := laidOut(t, 1000, 2, forced...)
	mustLay(t, w, more...)
	if !w.Force() {
		t.Fatal("not forced")
	}
	mustLay(t, w, commit(5000, 3)) // nobody forces it
	for range dones {
		if w.Done() != api.OK {
			t.Fatal("not done")
		}
	}
	if d.Crash(4, sectors) != api.OK {
		t.Fatal("no crash")
	}
	want := old
	if dones == 1 && sectors > 0 {
		want = append(want, more...)
	}
	if got := wal.Read(d); !same(got, want) {
		t.Fatalf("%v forced behind %v, a crash behind %d and %d sectors: %v", forced, was, dones, sectors, got)
	}
	again(t, d, want)
}

// again goes on behind a crash, with frames that end where those that were torn off may have: these don't come back.
func again(t *testing.T, d *stable.Device, want []api.Record) {
	t.Helper()
	for _, size := range []int{27, 37, 64, 101} {
		c := d.Clone()
		w, e := wal.Open(c, 4)
		if e != api.OK || !same(w.Records(), want) || w.Kept() != 0 || w.Flying() {
			t.Fatal("opened behind a crash:", e)
		}
		all := append([]api.Record(nil), want...)
		for i := range 4 {
			r := sized(t, api.Lsn(2000+i), 9, size)
			mustLay(t, w, r)
			all = append(all, r)
			w.Force()
			if got := wal.Read(c); !same(got, all[:len(all)-1]) {
				t.Fatal("ahead of Done:", got)
			}
			w.Done()
			if got := wal.Read(c); !same(got, all[:len(all)-1]) {
				t.Fatal("between both:", got)
			}
			w.Done()
			if got := wal.Read(c); !same(got, all) {
				t.Fatal("behind both:", got)
			}
		}
	}
}

// walk is a log that is told one step after the other, beside its model, and what was torn off it.
type walk struct {
	t    *testing.T
	rand *rand.Rand
	d    *stable.Device
	w    *wal.Log
	m    *model
	txn  int          // the last one: each record has its own, by which it is known
	torn map[int]bool // the transactions of records that were lost
}

func (k *walk) record() api.Record {
	k.txn++
	l := k.m.last() + api.Lsn(k.rand.Intn(40))
	switch k.rand.Intn(8) {
	case 0:
		return check(l, k.rand.Intn(4), k.rand.Intn(4))
	case 1:
		l = api.Lsn(k.rand.Uint64() >> k.rand.Intn(64))
		return commit(l, k.txn)
	case 2:
		r := commit(l, k.txn)
		r.Kind = api.Kind(k.rand.Intn(12) - 1)
		return r
	case 3, 4:
		return commit(l, k.txn)
	}
	return sized(k.t, max(l, 16), k.txn, 37+k.rand.Intn(80))
}

func (k *walk) same(what string, got, want api.Errno) {
	k.t.Helper()
	if got != want {
		k.t.Fatalf("%s: %d, asked for %d", what, got, want)
	}
}

func (k *walk) step() {
	k.t.Helper()
	switch k.rand.Intn(12) {
	case 0, 1, 2, 3:
		r := k.record()
		if r.Lsn > 1<<40 { // else no other one would go behind it
			k.same("Append", k.w.Append(r), k.m.clone().lay(r, false))
			k.crash()
			return
		}
		k.same("Append", k.w.Append(r), k.m.lay(r, false))
	case 4:
		n := []int{0, 1, 27, 60, 200, -1, math.MaxInt, math.MinInt, k.m.room(), k.m.room() + 1}[k.rand.Intn(10)]
		if k.rand.Intn(3) > 0 {
			n = k.rand.Intn(150)
		}
		k.same("Keep", k.w.Keep(n), k.m.keep(n))
	case 5:
		r := k.record()
		if r.Lsn < 1<<40 {
			k.same("Spend", k.w.Spend(r), k.m.lay(r, true))
		}
	case 6:
		n := []int{0, 1, 30, 100, -1, -50, math.MaxInt, math.MinInt, k.m.kept, k.m.kept + 1}[k.rand.Intn(10)]
		k.w.Drop(n)
		k.m.drop(n)
	case 7, 8:
		if k.w.Force() != k.m.force() {
			k.t.Fatal("Force")
		}
	case 9, 10:
		k.same("Done", k.w.Done(), k.m.done())
	case 11:
		if k.rand.Intn(3) == 0 {
			k.crash()
		}
	}
}

// clone is a model for one answer.
func (m *model) clone() *model {
	c := *m
	c.records = append([]api.Record(nil), m.records...)
	return &c
}

// crash loses the log, and goes on with another hand.
func (k *walk) crash() {
	k.t.Helper()
	before := map[int]bool{}
	for _, r := range k.m.records {
		before[r.Txn] = true
	}
	wasStable, wasForced := k.m.records[:k.m.stable], k.m.records[:k.m.forced]
	sectors := k.rand.Intn(8) - 1
	if k.m.step != 0 {
		k.same("Crash", k.d.Crash(k.m.hand, sectors), api.OK)
	}
	k.m.crash(sectors)
	if !same(k.m.records, wasStable) && !same(k.m.records, wasForced) {
		k.t.Fatalf("behind a crash: %v: asked for %v or %v", k.m.records, wasStable, wasForced)
	}
	k.m.hand = k.rand.Intn(api.MaxInst)
	w, e := wal.Open(k.d, k.m.hand)
	k.same("Open", e, api.OK)
	k.w = w
	for _, r := range k.m.records {
		delete(before, r.Txn)
	}
	for txn := range before {
		k.torn[txn] = true
	}
	delete(k.torn, 0) // records of checkpoints are nobody's
}

func (k *walk) holdTorn() {
	k.t.Helper()
	for _, r := range wal.Read(k.d) {
		if k.torn[r.Txn] {
			k.t.Fatalf("%v was torn off, and came back", r)
		}
	}
}

func TestWalks(t *testing.T) {
	for seed := range 60 {
		r := rand.New(rand.NewSource(int64(seed)))
		size := 64 * (1 + r.Intn(16))
		if seed%10 == 0 {
			size = 4096
		}
		k := &walk{t: t, rand: r, torn: map[int]bool{}}
		k.w, k.d, k.m = fresh(t, size, r.Intn(api.MaxInst))
		for range 400 {
			k.step()
			k.m.hold(k.w, k.d)
			k.holdTorn()
		}
	}
}

// Short lives: what is forced is torn again and again, with frames of other lengths each time.
func TestTornNeverComesBack(t *testing.T) {
	torn, stayed := 0, 0
	for seed := range 200 {
		r := rand.New(rand.NewSource(int64(seed)))
		k := &walk{t: t, rand: r, torn: map[int]bool{}}
		k.w, k.d, k.m = fresh(t, 1024, 0)
		for range 20 {
			for range 1 + r.Intn(4) {
				x := sized(t, k.m.last()+16, k.txn+1, 37+r.Intn(80))
				k.txn++
				k.same("Append", k.w.Append(x), k.m.lay(x, false))
			}
			if k.w.Force() != k.m.force() {
				t.Fatal("Force")
			}
			for range r.Intn(4) {
				k.same("Done", k.w.Done(), k.m.done())
			}
			k.crash()
			k.m.hold(k.w, k.d)
			k.holdTorn()
		}
		torn += len(k.torn)
		stayed += len(k.m.records)
	}
	if torn < 1000 || stayed < 1000 {
		t.Fatal("torn off were", torn, "and there stayed", stayed)
	}
}

// What is kept can be spent, whatever else is laid, forced and refused meanwhile.
func TestKeptCanBeSpent(t *testing.T) {
	for seed := range 100 {
		r := rand.New(rand.NewSource(int64(seed)))
		w, d, m := fresh(t, 2048, 0)
		var owed []int
		lsn := api.Lsn(16)
		for range 60 {
			lsn++
			size := 37 + r.Intn(80)
			switch r.Intn(6) {
			case 0, 1:
				e := w.Keep(size)
				if e != m.keep(size) {
					t.Fatal("Keep:", e)
				}
				if e == api.OK {
					owed = append(owed, size)
				}
			case 2, 3:
				if e := w.Append(sized(t, lsn, 1, size)); e != m.lay(sized(t, lsn, 1, size), false) {
					t.Fatal("Append:", e)
				}
			case 4:
				if w.Force() != m.force() {
					t.Fatal("Force")
				}
			case 5:
				if w.Done() != m.done() {
					t.Fatal("Done")
				}
			}
		}
		for w.Append(commit(lsn+1, 1)) == api.OK { // no room is left
			lsn++
			m.lay(commit(lsn, 1), false)
		}
		for _, size := range owed {
			lsn++
			x := sized(t, lsn, 2, size)
			if e := w.Spend(x); e != api.OK || m.lay(x, true) != api.OK {
				t.Fatal("what is kept can't be spent:", e)
			}
		}
		if w.Kept() != 0 {
			t.Fatal("kept is", w.Kept())
		}
		m.hold(w, d)
	}
}

// A log's records go on as one row through many openings, and a full log can still be read.
func TestManyOpenings(t *testing.T) {
	d := device(t, api.MaxLog, nil)
	var l []api.Record
	for i := 0; ; i++ {
		w, e := wal.Open(d, i%8)
		if e != api.OK || !same(w.Records(), l) || w.Stable() != w.Last() {
			t.Fatal("opened:", e)
		}
		var laid []api.Record
		for k := range 60 {
			r := sized(t, w.Last()+api.Lsn(16+k), i+1, 37+(i*60+k)%80)
			if w.Append(r) != api.OK {
				break
			}
			laid = append(laid, r)
		}
		if len(laid) == 0 {
			break
		}
		forcedAll(t, w)
		l = append(l, laid...)
	}
	if got := wal.Read(d); !same(got, l) || len(l) < 400 {
		t.Fatal("in the end:", len(got), len(l))
	}
}

// No argument makes a call panic.
func TestNoPanics(t *testing.T) {
	r := rand.New(rand.NewSource(1))
	number := func() int {
		return []int{0, 1, -1, 63, 64, 65, 1 << 16, 1 << 31, 1 << 32, math.MaxInt, math.MinInt, r.Int(), -r.Int()}[r.Intn(13)]
	}
	record := func() api.Record {
		x := api.Record{Kind: api.Kind(number()), Lsn: api.Lsn(number()), Txn: number(), Prev: api.Lsn(number()), Undo: api.Lsn(number()), Page: number()}
		x.Act = api.Act{Kind: api.ActKind(number()), Key: text(r.Intn(70000), 'k'), Old: text(r.Intn(40), 0), New: text(r.Intn(40), 255)}
		x.Txns = make([]api.Txn, r.Intn(2000))
		x.Dirty = make([]api.Dirty, r.Intn(2000))
		return x
	}
	for range 300 {
		var w *wal.Log
		d := device(t, 64*r.Intn(6), nil)
		if n := d.Size(); n > 0 {
			b := make([]byte, n)
			r.Read(b)
			copy(b, markOf(uint32(r.Intn(n))))
			d.Start(0, 0, b)
			d.Finish(0)
		}
		wal.Read(d)
		if o, e := wal.Open(d, number()); e == api.OK {
			w = o
		}
		if w == nil && r.Intn(3) > 0 {
			w, _ = wal.Open(d, 0)
		}
		for range 10 {
			x := record()
			if e := w.Append(x); e != api.ErrArg || rec.Check(x) == api.OK {
				t.Fatal("Append:", e)
			}
			if e := w.Spend(x); e != api.ErrArg {
				t.Fatal("Spend:", e)
			}
			w.Keep(number())
			w.Drop(number())
			w.Find(api.Lsn(number()))
			w.Append(commit(w.Last()+20, 1))
			w.Force()
			w.Done()
			w.Records()
			w.Room()
			w.Kept()
			w.Stable()
			w.Flying()
		}
	}
}
