package act_test

import (
	"bytes"
	"math"
	"math/rand"
	"slices"
	"testing"

	"flotilla/act"
	"flotilla/api"
	"flotilla/page"
)

// 7.3, 7.5

func redoKinds() []api.Kind { return []api.Kind{api.RecUpdate, api.RecUndo} }

func TestRedoOfNilPage(t *testing.T) {
	for _, k := range recKinds() {
		for _, a := range []api.Act{{}, ins("a", "x"), del("a", "x")} {
			for _, l := range []api.Lsn{0, 1, 100, math.MaxUint64} {
				r := record(k, a)
				r.Lsn, r.Page = l, 0
				if done, e := act.Redo(nil, r); done || e != api.ErrArg {
					t.Errorf("Redo(nil, %v): %v, %d", r, done, e)
				}
			}
		}
	}
}

// lsns has those around the 77 of a page, and the edges.
func lsns() []api.Lsn {
	return []api.Lsn{0, 1, 76, 77, 78, 79, 100, 1 << 32, 1<<32 + 76, 1<<60 + 15, 1<<60 + 16, 1 << 63, math.MaxUint64}
}

func TestRedoOfOtherKinds(t *testing.T) {
	for _, k := range recKinds() {
		if k == 1 || k == 2 {
			continue
		}
		for _, l := range lsns() {
			for _, a := range []api.Act{{}, ins("b", "x"), ins("a", "x"), del("a", "x"), upd("a", "x", "y")} {
				r := record(k, a)
				r.Lsn = l
				on(t, api.Pair{Key: "a", Value: "x"}).wantRedo(r, false, api.ErrArg)
			}
		}
	}
}

func TestRedoOfOtherPages(t *testing.T) {
	pages := []int{math.MinInt, -5, -1, 16, 255, 1<<8 + 5, 1<<16 + 5, 1<<32 + 5, math.MaxInt}
	for id := range 16 {
		pages = append(pages, id)
	}
	for _, n := range pages {
		for _, k := range redoKinds() {
			for _, l := range lsns() {
				r := record(k, upd("a", "x", "y"))
				r.Lsn, r.Page = l, n
				x := on(t, api.Pair{Key: "a", Value: "x"})
				if n != 5 {
					x.wantRedo(r, false, api.ErrArg)
				} else {
					x.wantRedo(r, l > 77, api.OK)
				}
			}
		}
	}
	for id := range 16 { // each page has records of its own
		x := begin(t, id)
		x.wantRedo(api.Record{Kind: api.RecUpdate, Lsn: 16, Txn: 1, Page: id, Act: ins("a", "x")}, true, api.OK)
	}
}

func TestRedoByLsn(t *testing.T) {
	for _, k := range redoKinds() {
		for _, has := range lsns() {
			for _, l := range lsns() {
				for _, a := range []api.Act{ins("b", "x"), upd("a", "x", "y"), del("a", "x")} {
					x := on(t, api.Pair{Key: "a", Value: "x"})
					x.stamp(has)
					r := record(k, a)
					r.Lsn = l
					x.wantRedo(r, l > has, api.OK)
					if x.p.Lsn() != max(l, has) {
						t.Errorf("the LSN of a page of %d behind a record of %d: %d", has, l, x.p.Lsn())
					}
				}
			}
		}
	}
}

// cannot has changes that can't be done to full(t, 0), with their errors.
func cannot() map[api.Act]api.Errno {
	l := map[api.Act]api.Errno{
		ins("a", "x"):           api.ErrTwice,
		ins("n", "x"):           api.ErrFull,
		upd("n", "x", "y"):      api.ErrNone,
		upd("a", "y", "z"):      api.ErrState,
		upd("a", "x", text(32)): api.ErrFull,
		del("n", "x"):           api.ErrNone,
		del("a", "y"):           api.ErrState,
	}
	for _, a := range wrongActs() {
		l[a] = api.ErrArg
	}
	return l
}

// TestRedoOfWhatCannotBe: false and its error above the page's LSN; at and below that nobody asks whether it could be done.
func TestRedoOfWhatCannotBe(t *testing.T) {
	x := full(t, 0)
	for a, want := range cannot() {
		for _, k := range redoKinds() {
			for _, l := range lsns() {
				r := record(k, a)
				r.Lsn = l
				if l > 77 {
					x.wantRedo(r, false, want)
				} else {
					x.wantRedo(r, false, api.OK)
				}
			}
		}
	}
	x.wantRedo(record(api.RecUpdate, upd("a", "x", "y")), true, api.OK)
}

// TestRedoOfAnyFields: what else a record has makes no odds, and stays.
func TestRedoOfAnyFields(t *testing.T) {
	for _, txn := range []int{math.MinInt, -1, 0, 1, 1<<30 + 1, math.MaxInt} {
		for _, l := range lsns() {
			x := on(t)
			r := api.Record{Kind: api.RecUndo, Lsn: 78, Txn: txn, Prev: l, Undo: l, Page: 5, Act: ins("a", "x")}
			r.Txns, r.Dirty = []api.Txn{{ID: 3, Last: 9}}, []api.Dirty{{Page: 5, Rec: 1}}
			x.wantRedo(r, true, api.OK)
			if !slices.Equal(r.Txns, []api.Txn{{ID: 3, Last: 9}}) || !slices.Equal(r.Dirty, []api.Dirty{{Page: 5, Rec: 1}}) {
				t.Error("the rows:", r)
			}
		}
	}
}

// TestTakenBackAtOnce has every change that can be done, and its keys and values behind it and its turned one.
func TestTakenBackAtOnce(t *testing.T) {
	c := chance{rand.New(rand.NewSource(73))}
	for id := range 16 {
		for range 20 {
			x := begin(t, id)
			for range 100 {
				a, was := c.change(x.p), x.p.Pairs()
				if x.do(a) != api.OK {
					continue
				}
				x.want(act.Turn(a), api.OK)
				if !slices.Equal(x.p.Pairs(), was) {
					t.Fatalf("%v taken back: %v, and was %v", a, x.p.Pairs(), was)
				}
				x.do(a)
			}
		}
	}
}

// TestTakenBackOnFullPages: there is room for what was there ahead, however the slots lie.
func TestTakenBackOnFullPages(t *testing.T) {
	for free := range 30 {
		x := full(t, free)
		for _, c := range x.p.Pairs() {
			for _, a := range []api.Act{del(c.Key, c.Value), upd(c.Key, c.Value, ""), upd(c.Key, c.Value, "y"), ins("n", "")} {
				y := &twin{t, x.p.Clone(), &model{x.m.id, x.m.lsn, x.m.slots}}
				if y.do(a) != api.OK {
					continue
				}
				y.want(act.Turn(a), api.OK)
				if !slices.Equal(y.p.Pairs(), x.p.Pairs()) {
					t.Fatalf("%v taken back: %v, and was %v", a, y.p.Pairs(), x.p.Pairs())
				}
			}
		}
	}
}

// log does changes by records, of which those are answered that were redone, with the pairs ahead of each.
func (x *twin) log(c chance, steps int, from api.Lsn) ([]api.Record, [][]api.Pair) {
	x.t.Helper()
	var records []api.Record
	var ahead [][]api.Pair
	for i := range steps {
		was := x.p.Pairs()
		r := api.Record{Kind: api.RecUpdate, Lsn: from + api.Lsn(16*i+1), Txn: 1 + c.Intn(3), Page: x.m.id, Act: c.change(x.p)}
		if done, _ := x.redo(r); done {
			records, ahead = append(records, r), append(ahead, was)
		}
	}
	return records, ahead
}

// TestRolledBack takes many records back, the last one first, each by a record of its own.
func TestRolledBack(t *testing.T) {
	c := chance{rand.New(rand.NewSource(74))}
	for id := range 16 {
		x := begin(t, id)
		x.log(c, 40, 16)
		records, ahead := x.log(c, 60, 4096)
		l := api.Lsn(1 << 20)
		var all []api.Record
		for i := len(records) - 1; i >= 0; i-- {
			l += 16
			b, e := act.Back(records[i], l, l-16, records[i].Prev)
			if e != api.OK {
				t.Fatal(e)
			}
			x.wantRedo(b, true, api.OK)
			all = append(all, b)
			if x.p.Lsn() != l || !slices.Equal(x.p.Pairs(), ahead[i]) {
				t.Fatalf("%v taken back: %v, and was %v", records[i], x.p.Pairs(), ahead[i])
			}
		}
		for _, r := range append(records, all...) {
			x.wantRedo(r, false, api.OK)
		}
	}
}

// TestRedoneOnceMore redoes records of pages that have all, some or none of them.
func TestRedoneOnceMore(t *testing.T) {
	c := chance{rand.New(rand.NewSource(75))}
	for id := range 16 {
		x := begin(t, id)
		records, _ := x.log(c, 80, 16)
		want := x.p.Bytes()
		for range 2 {
			for _, r := range records {
				x.wantRedo(r, false, api.OK)
			}
		}
		if !bytes.Equal(x.p.Bytes(), want) {
			t.Fatal("the bytes are others")
		}
		for some := range len(records) + 1 {
			p, _ := page.New(id)
			redoAll(t, p, records[:some], 0)
			q, e := page.Parse(id, p.Bytes())
			if e != api.OK {
				t.Fatal(e)
			}
			redoAll(t, q, records, some)
			redoAll(t, q, records, len(records))
			if !bytes.Equal(q.Bytes(), want) {
				t.Fatalf("a page that had %d of %d records", some, len(records))
			}
		}
	}
}

// redoAll redoes records of which a page has the first ones.
func redoAll(t *testing.T, p *page.Page, records []api.Record, has int) {
	t.Helper()
	for i, r := range records {
		if done, e := act.Redo(p, r); done != (i >= has) || e != api.OK {
			t.Fatalf("record %d, of which %d are there: %v, %d", i, has, done, e)
		}
	}
}

// P1

func TestNothingPanics(t *testing.T) {
	c := chance{rand.New(rand.NewSource(76))}
	kinds, actKinds := recKinds(), actKinds()
	some := func() string {
		return text([]int{0, 1, 2, 15, 16, 17, 31, 32, 33, 255, 256, 1 << 16}[c.Intn(12)])
	}
	pages := []*page.Page{nil, {}, full(t, 0).p, full(t, 9).p, on(t).p, on(t, api.Pair{Key: "a", Value: "x"}).p}
	for range 20000 {
		a := api.Act{Kind: actKinds[c.Intn(len(actKinds))], Key: some(), Old: some(), New: some()}
		if c.Intn(3) == 0 {
			a.Kind = api.ActKind(1 + c.Intn(3))
		}
		r := api.Record{Kind: kinds[c.Intn(len(kinds))], Lsn: api.Lsn(c.Uint64()), Txn: c.Int(), Page: c.Intn(20) - 2, Act: a}
		p := pages[c.Intn(len(pages))]
		act.May(a)
		act.Turn(a)
		act.Plan(p, a)
		act.Redo(p.Clone(), r)
		act.Do(p, a)
		act.Back(r, api.Lsn(c.Uint64()), api.Lsn(c.Uint64()), api.Lsn(c.Uint64()))
	}
}
