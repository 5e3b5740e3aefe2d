package merge_test

import (
	"math"
	"math/rand"
	"testing"

	"flotilla/api"
	"flotilla/merge"
)

// 10.3: a transaction's records, a page's last change

// link is a record, and the one ahead of it.
func link(l, prev api.Lsn) api.Record {
	r := full(l)
	r.Prev = prev
	return r
}

// chainByWord is what Chain should tell, call by call.
func chainByWord(l []api.Record, at api.Lsn) ([]api.Record, api.Errno) {
	if !risesByWord(l) {
		return nil, api.ErrArg
	}
	if at == 0 {
		return nil, api.OK
	}
	for _, r := range l {
		if r.Lsn != at {
			continue
		}
		if !(r.Prev < r.Lsn) {
			return nil, api.ErrArg
		}
		rest, e := chainByWord(l, r.Prev)
		if e != api.OK {
			return nil, e
		}
		return append([]api.Record{r}, rest...), api.OK
	}
	return nil, api.ErrNone
}

// wantChain asks for records and an error.
func wantChain(t *testing.T, l []api.Record, at api.Lsn, want []api.Record, e api.Errno) {
	t.Helper()
	was := deep(l)
	got, err := merge.Chain(l, at)
	if err != e || !same(got, want) {
		t.Fatalf("Chain of %v at %d: %v, %d, and should be %v, %d", numbers(was), at, numbers(got), err, numbers(want), e)
	}
	if !same(l, was) {
		t.Fatalf("Chain of %v at %d changed it: %v", numbers(was), at, numbers(l))
	}
}

// pick is records by their places.
func pick(l []api.Record, places ...int) []api.Record {
	var some []api.Record
	for _, i := range places {
		some = append(some, l[i])
	}
	return some
}

func TestChain(t *testing.T) {
	l := []api.Record{link(16, 0), link(32, 0), link(48, 16), link(50, 48), link(65, 32), link(80, 50)}
	wantChain(t, l, 16, pick(l, 0), api.OK)
	wantChain(t, l, 32, pick(l, 1), api.OK)
	wantChain(t, l, 48, pick(l, 2, 0), api.OK)
	wantChain(t, l, 50, pick(l, 3, 2, 0), api.OK)
	wantChain(t, l, 65, pick(l, 4, 1), api.OK)
	wantChain(t, l, 80, pick(l, 5, 3, 2, 0), api.OK)
	wantChain(t, l, 0, nil, api.OK)
	for _, at := range []api.Lsn{1, 15, 17, 31, 33, 49, 51, 79, 81, 1 << 63, top} {
		wantChain(t, l, at, nil, api.ErrNone)
	}
}

// At 0 there are no records, even where one has the LSN 0.
func TestChainAtNought(t *testing.T) {
	wantChain(t, nil, 0, nil, api.OK)
	wantChain(t, []api.Record{}, 0, nil, api.OK)
	wantChain(t, fulls(16), 0, nil, api.OK)
	l := []api.Record{link(0, 0), link(16, 0), link(32, 16)}
	wantChain(t, l, 0, nil, api.OK)
	wantChain(t, l, 16, pick(l, 1), api.OK)
	wantChain(t, l, 32, pick(l, 2, 1), api.OK)
	wantChain(t, []api.Record{link(0, 5), link(16, 0)}, 16, []api.Record{link(16, 0)}, api.OK)
}

func TestChainOfNone(t *testing.T) {
	for _, at := range []api.Lsn{1, 16, top} {
		wantChain(t, nil, at, nil, api.ErrNone)
		wantChain(t, []api.Record{}, at, nil, api.ErrNone)
	}
}

func TestChainAtTheEdges(t *testing.T) {
	l := []api.Record{link(1, 0), link(1<<63, 1), link(top-1, 1<<63), link(top, top-1)}
	wantChain(t, l, top, pick(l, 3, 2, 1, 0), api.OK)
	wantChain(t, l, 1, pick(l, 0), api.OK)
	wantChain(t, []api.Record{link(top, top)}, top, nil, api.ErrArg)
}

// A Prev that isn't there: of the one itself, and of one on the way.
func TestChainWhosePrevIsNotThere(t *testing.T) {
	l := []api.Record{link(16, 3), link(32, 0), link(48, 16), link(64, 33), link(80, 48), link(96, 79), link(112, 32)}
	for _, at := range []api.Lsn{16, 48, 64, 80, 96} {
		wantChain(t, l, at, nil, api.ErrNone)
	}
	wantChain(t, l, 112, pick(l, 6, 1), api.OK)
}

// A Prev that isn't below: of the one itself, and of one on the way.
func TestChainWhosePrevIsNotBelow(t *testing.T) {
	l := []api.Record{link(16, 16), link(32, 0), link(48, 16), link(64, 80), link(80, 64), link(96, 32), link(112, 32)}
	for _, at := range []api.Lsn{16, 48, 64, 80} {
		wantChain(t, l, at, nil, api.ErrArg)
	}
	wantChain(t, l, 96, pick(l, 5, 1), api.OK)
	wantChain(t, []api.Record{link(16, 32), link(32, 0)}, 16, nil, api.ErrArg)
	wantChain(t, []api.Record{link(16, 32), link(32, 16)}, 16, nil, api.ErrArg)
	wantChain(t, []api.Record{link(16, 32), link(32, 16)}, 32, nil, api.ErrArg)
	wantChain(t, []api.Record{link(16, top)}, 16, nil, api.ErrArg)
}

func TestChainOfRecordsThatDoNotRise(t *testing.T) {
	for _, l := range [][]api.Record{
		{link(32, 0), link(16, 0)},
		{link(16, 0), link(16, 0)},
		{link(16, 0), link(32, 16), link(48, 32), link(47, 0)},
		{link(0, 0), link(0, 0)},
	} {
		for _, at := range []api.Lsn{0, 16, 17, 32, 48, top} {
			wantChain(t, l, at, nil, api.ErrArg)
		}
	}
}

// More than one error: records that don't rise are told first, then what is met first on the way back.
func TestChainErrorsInTheirOrder(t *testing.T) {
	falls := []api.Record{link(16, 3), link(32, 32), link(48, 16), link(40, 0)}
	for _, at := range []api.Lsn{0, 5, 16, 32, 40, 48} {
		wantChain(t, falls, at, nil, api.ErrArg)
	}
	l := []api.Record{link(16, 3), link(32, 32), link(48, 16), link(64, 32), link(80, 70), link(96, 64), link(112, 80)}
	wantChain(t, l, 48, nil, api.ErrNone)
	wantChain(t, l, 64, nil, api.ErrArg)
	wantChain(t, l, 80, nil, api.ErrNone)
	wantChain(t, l, 96, nil, api.ErrArg)
	wantChain(t, l, 112, nil, api.ErrNone)
	// A Prev that is neither below nor there.
	wantChain(t, []api.Record{link(16, 17), link(32, 0)}, 16, nil, api.ErrArg)
	wantChain(t, []api.Record{link(16, 40), link(32, 16)}, 32, nil, api.ErrArg)
}

// Records are followed by Prev alone, whatever they are.
func TestChainAsksForPrevAlone(t *testing.T) {
	l := []api.Record{
		{Kind: api.RecCommit, Lsn: 16, Txn: 1},
		{Kind: 77, Lsn: 32, Txn: 2, Prev: 16, Undo: 99},
		{Kind: -1, Lsn: 48, Txn: -5, Prev: 32, Page: -1},
	}
	wantChain(t, l, 48, pick(l, 2, 1, 0), api.OK)
}

// The records of several transactions stand amid one another; each chain has its own alone.
func TestChainOfSeveralTransactions(t *testing.T) {
	r := rand.New(rand.NewSource(7))
	for range 100 {
		var l []api.Record
		own := map[int][]api.Record{}
		for n := api.Lsn(16); len(l) < 60; n += api.Lsn(1 + r.Intn(30)) {
			txn := 1 + r.Intn(6)
			x := full(n)
			x.Txn, x.Prev = txn, 0
			if o := own[txn]; len(o) > 0 {
				x.Prev = o[0].Lsn
			}
			l = append(l, x)
			own[txn] = append([]api.Record{x}, own[txn]...)
			wantChain(t, l, n, own[txn], api.OK)
		}
		for _, o := range own {
			for i := range o {
				wantChain(t, l, o[i].Lsn, o[i:], api.OK)
			}
		}
	}
}

func TestChainOfSomeRecords(t *testing.T) {
	r := rand.New(rand.NewSource(8))
	told := map[api.Errno]int{}
	for round := range 2000 {
		var l []api.Record
		for _, n := range rising(r, r.Intn(12), 20) {
			prev := api.Lsn(0)
			switch r.Intn(8) {
			case 0:
				prev = api.Lsn(r.Intn(22))
			case 1, 2, 3, 4, 5:
				if len(l) > 0 {
					prev = l[r.Intn(len(l))].Lsn
				}
			}
			l = append(l, link(n, prev))
		}
		if round%10 == 0 {
			r.Shuffle(len(l), func(i, k int) { l[i], l[k] = l[k], l[i] })
		}
		for at := range api.Lsn(22) {
			want, e := chainByWord(l, at)
			wantChain(t, l, at, want, e)
			if len(want) > 2 || e != api.OK {
				told[e]++
			}
		}
	}
	if told[api.OK] < 1000 || told[api.ErrNone] < 1000 || told[api.ErrArg] < 1000 {
		t.Fatal("too few of one kind:", told)
	}
}

func TestChainOfMany(t *testing.T) {
	const n = 100000
	var l, back []api.Record
	for i := api.Lsn(1); i <= n; i++ {
		l = append(l, api.Record{Lsn: i, Prev: i - 1})
	}
	for i := api.Lsn(n); i > 0; i-- {
		back = append(back, api.Record{Lsn: i, Prev: i - 1})
	}
	got, e := merge.Chain(l, n)
	if e != api.OK || !same(got, back) {
		t.Fatal("a long chain:", len(got), e)
	}
	l[0].Prev = 1
	if got, e := merge.Chain(l, n); e != api.ErrArg || len(got) != 0 {
		t.Fatal("a long chain whose end isn't right:", len(got), e)
	}
}

func TestChainMemory(t *testing.T) {
	l := []api.Record{link(16, 0), link(32, 0), link(48, 16), link(50, 48), link(80, 50)}
	wantOwn(t, "Chain", l, func() []api.Record {
		chain, e := merge.Chain(l, 80)
		if e != api.OK {
			t.Fatal(e)
		}
		return chain
	})
}

// lastByWord is the greatest of those LSNs, by the kinds' numbers.
func lastByWord(l []api.Record, page int) api.Lsn {
	var last api.Lsn
	for _, r := range l {
		if r.Page == page && (r.Kind == 1 || r.Kind == 2) && r.Lsn > last {
			last = r.Lsn
		}
	}
	return last
}

func TestLastOfEveryKind(t *testing.T) {
	for kind := api.Kind(-2); kind < 14; kind++ {
		l := []api.Record{{Kind: kind, Lsn: 33, Page: 3}}
		want := api.Lsn(0)
		if kind == 1 || kind == 2 {
			want = 33
		}
		if got := merge.Last(l, 3); got != want {
			t.Errorf("Last with the kind %d: %d", kind, got)
		}
		if got := merge.Last(l, 4); got != 0 {
			t.Errorf("Last of another page with the kind %d: %d", kind, got)
		}
		l = append([]api.Record{{Kind: api.RecUndo, Lsn: 20, Page: 3}}, l...)
		if got := merge.Last(l, 3); got != max(want, 20) {
			t.Errorf("Last behind one, with the kind %d: %d", kind, got)
		}
	}
}

func TestLast(t *testing.T) {
	l := []api.Record{
		{Kind: api.RecUpdate, Lsn: 16, Page: 0},
		{Kind: api.RecUpdate, Lsn: 32, Page: 1},
		{Kind: api.RecUndo, Lsn: 48, Page: 0},
		{Kind: api.RecCommit, Lsn: 64},
		{Kind: api.RecUpdate, Lsn: 80, Page: 15},
		{Kind: api.RecCheck, Lsn: 96, Dirty: []api.Dirty{{Page: 1, Rec: 32}}},
		{Kind: api.RecUpdate, Lsn: 112, Page: -1},
		{Kind: api.RecUpdate, Lsn: top, Page: math.MaxInt},
		{Kind: api.RecUndo, Lsn: 17, Page: math.MinInt},
	}
	for _, c := range []struct {
		page int
		want api.Lsn
	}{{0, 48}, {1, 32}, {2, 0}, {14, 0}, {15, 80}, {16, 0}, {-1, 112}, {-2, 0}, {math.MaxInt, top}, {math.MinInt, 17}} {
		if got := merge.Last(l, c.page); got != c.want {
			t.Errorf("Last of the page %d: %d, and should be %d", c.page, got, c.want)
		}
	}
	for _, page := range []int{0, 1, -1, math.MaxInt, math.MinInt} {
		if got := merge.Last(nil, page) + merge.Last([]api.Record{}, page); got != 0 {
			t.Errorf("Last of none: %d", got)
		}
	}
}

// Of records that don't rise it is the greatest, not the one that stands last.
func TestLastOfRecordsThatDoNotRise(t *testing.T) {
	l := []api.Record{
		{Kind: api.RecUpdate, Lsn: 16, Page: 1},
		{Kind: api.RecUndo, Lsn: 90, Page: 1},
		{Kind: api.RecUpdate, Lsn: 33, Page: 1},
		{Kind: api.RecUpdate, Lsn: 90, Page: 1},
		{Kind: api.RecUpdate, Lsn: 7, Page: 2},
		{Kind: api.RecUpdate, Lsn: 3, Page: 2},
	}
	if a, b := merge.Last(l, 1), merge.Last(l, 2); a != 90 || b != 7 {
		t.Error("Last:", a, b)
	}
}

func TestLastOfSomeRecords(t *testing.T) {
	r := rand.New(rand.NewSource(9))
	for range 1000 {
		var l []api.Record
		for range r.Intn(20) {
			l = append(l, api.Record{Kind: api.Kind(r.Intn(5)), Lsn: api.Lsn(r.Intn(40)), Page: r.Intn(4)})
		}
		was := deep(l)
		for page := range 5 {
			if got := merge.Last(l, page); got != lastByWord(l, page) {
				t.Fatalf("Last of the page %d of %v: %d", page, l, got)
			}
		}
		if !same(l, was) {
			t.Fatal("Last changed what was handed in")
		}
	}
}

// P1: whatever records are, nothing panics, and beside an error there is nothing.
func TestAnyRecords(t *testing.T) {
	r := rand.New(rand.NewSource(10))
	odd := []uint64{0, 1, 15, 16, 17, 1 << 31, 1<<31 - 1, 1 << 56, 1<<60 + 15, 1<<60 + 16, 1 << 63, 1<<63 - 1, math.MaxUint64 - 1, math.MaxUint64}
	odds := func() uint64 { return odd[r.Intn(len(odd))] }
	for range 3000 {
		var logs [][]api.Record
		for range r.Intn(4) {
			var l []api.Record
			for range r.Intn(5) {
				l = append(l, api.Record{
					Kind: api.Kind(odds()), Lsn: api.Lsn(odds()), Txn: int(odds()), Prev: api.Lsn(odds()), Undo: api.Lsn(odds()), Page: int(odds()),
					Act:  api.Act{Kind: api.ActKind(odds()), Key: string(make([]byte, r.Intn(100)))},
					Txns: make([]api.Txn, r.Intn(3)), Dirty: make([]api.Dirty, r.Intn(3)),
				})
			}
			logs = append(logs, l)
		}
		want, e := mergedByWord(logs)
		wantMerge(t, logs, want, e)
		for _, l := range logs {
			at := api.Lsn(odds())
			merge.Rises(l)
			merge.From(l, at)
			merge.Last(l, int(odds()))
			want, e := chainByWord(l, at)
			wantChain(t, l, at, want, e)
		}
	}
}
