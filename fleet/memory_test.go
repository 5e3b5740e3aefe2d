package fleet_test

import (
	"testing"

	"flotilla/api"
	"flotilla/fleet"
)

// What was told may be written over without changing anything else.

func spoilPairs(l []api.Pair) {
	for n := range l {
		l[n] = api.Pair{Key: "spoilt", Value: "spoilt"}
	}
	_ = append(l[:0], api.Pair{Key: "more"})
}

func spoilRecords(l []api.Record) {
	for n := range l {
		for k := range l[n].Txns {
			l[n].Txns[k] = api.Txn{ID: 99}
		}
		for k := range l[n].Dirty {
			l[n].Dirty[k] = api.Dirty{Page: 9}
		}
		l[n] = api.Record{Kind: 99}
	}
}

func spoilAnswers(l []api.Answer) {
	for n := range l {
		spoilPairs(l[n].Pairs)
		l[n] = api.Answer{Step: 99}
	}
	_ = append(l, api.Answer{Step: 98})
}

// spoil writes over all that is told of a fleet.
func spoil(f *fleet.Fleet, c api.Config) {
	spoilPairs(f.Map())
	for n := 1; n <= c.Insts; n++ {
		spoilRecords(f.Log(n))
	}
	for id := range c.Pages {
		p := f.Disk(id)
		for _, x := range p.Pairs() {
			p.Delete(x.Key)
		}
		p.Insert("spoilt", "spoilt")
		p.Stamp(1 << 40)
	}
}

func TestWhatWasToldMayBeWrittenOver(t *testing.T) {
	c := api.Config{Insts: 2, Pages: 3, Frames: 2, Log: 8192, Fast: []bool{true}}
	f, g := made(t, c), made(t, c)
	steps := []api.Step{
		begin(1, 0), put(1, 0, "a", "1"), put(1, 0, "b", "2"), put(1, 0, "c", "3"), save(1, 0), check(1), clean(1, 0), clean(1, 1), scan(1, 0, "", "z"), commit(1, 0),
		begin(2, 0), begin(2, 1), scan(2, 0, "", "z"), scan(2, 1, "", "z"), get(2, 1, "a"), commit(2, 0), put(2, 1, "a", "4"), check(2), crash(1, 0), commit(2, 1),
		recovery(2, 1, 0), crash(2, 1), restart(1, 0), recovery(1, 2, 0), begin(1, 2), scan(1, 2, "", "z"), abort(1, 2),
	}
	for n, s := range steps {
		spoil(f, c)
		a, b := f.Do(s), g.Do(s)
		if !same(a, b) {
			t.Fatal(n, s, a, b)
		}
		spoilAnswers(a)
		spoil(f, c)
		for k := range 30 {
			a, x := f.Calm(1)
			b, y := g.Calm(1)
			if !same(a, b) || x != y {
				t.Fatal(n, s, k, a, b)
			}
			spoilAnswers(a)
		}
		if everything(f, c) != everything(g, c) {
			t.Fatal(n, s, everything(f, c), everything(g, c))
		}
	}
}

// No two answers share memory: neither those of one call, nor those of two.
func TestAnswersShareNothing(t *testing.T) {
	f := made(t, one(1, 2))
	okay(t, f, begin(1, 0), put(1, 0, "a", "1"), put(1, 0, "b", "2"), commit(1, 0), begin(1, 0), begin(1, 1))
	f.Do(scan(1, 0, "", "z"))
	f.Do(scan(1, 1, "", "z"))
	l := calm(t, f)
	wantKinds(t, "two Scans", l, api.ReplyPairs, api.ReplyPairs)
	want := []api.Pair{{Key: "a", Value: "1"}, {Key: "b", Value: "2"}}
	spoilPairs(l[0].Pairs)
	if !same(l[1].Pairs, want) {
		t.Fatal(l)
	}
	m, n := f.Map(), f.Map()
	spoilPairs(m)
	if !same(n, want) {
		t.Fatal(n)
	}
	a, b := f.Log(1), f.Log(1)
	spoilRecords(a)
	if len(b) == 0 || b[0].Kind == 99 {
		t.Fatal(b)
	}
	p, q := f.Disk(0), f.Disk(0)
	p.Insert("x", "y")
	if _, is := q.Get("x"); is {
		t.Fatal("pages share memory")
	}
}
