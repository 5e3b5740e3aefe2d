package mend_test

import (
	"math"
	"slices"
	"testing"

	"flotilla/api"
	"flotilla/mend"
)

// 19.3: Touched, Size

func TestTouched(t *testing.T) {
	a := insert("a", "x")
	if got := mend.Touched(nil); len(got) != 0 {
		t.Error("of none:", got)
	}
	if got := mend.Touched([]api.Record{}); len(got) != 0 {
		t.Error("of none:", got)
	}
	for _, c := range []struct {
		l    []api.Record
		want []int
	}{
		{[]api.Record{update(16, 1, 0, 0, a)}, []int{0}},
		{[]api.Record{undo(16, 1, 0, 0, 0, a)}, []int{0}},
		{[]api.Record{update(16, 1, 0, 15, a), update(32, 1, 0, 2, a), undo(48, 1, 0, 0, 10, a), update(64, 2, 0, 2, a), undo(80, 2, 0, 0, 15, a)}, []int{2, 10, 15}},
		{[]api.Record{update(16, 1, 0, 9, a), commit(32, 1, 16), save(48, 2, 0), abort(64, 2, 48), end(80, 2, 64)}, []int{9}},
		{[]api.Record{commit(16, 1, 0), save(32, 2, 0), abort(48, 2, 32), end(64, 2, 48), opens(80), check(96, nil, []api.Dirty{{Page: 3, Rec: 16}})}, nil},
		// records that don't rise, and such as may not be, name pages too
		{[]api.Record{update(32, 1, 0, 5, a), update(16, 1, 0, 4, a), update(16, 1, 0, 5, a)}, []int{4, 5}},
		{[]api.Record{update(0, 0, 0, math.MaxInt, api.Act{}), update(0, 0, 0, 16, api.Act{}), undo(0, 0, 0, 0, -1, api.Act{}), undo(0, 0, 0, 0, math.MinInt, api.Act{}), update(0, 0, 0, 0, api.Act{})}, []int{math.MinInt, -1, 0, 16, math.MaxInt}},
		// of no other kind, whatever it names
		{[]api.Record{{Kind: api.RecCommit, Page: 4, Act: a}, {Kind: 0, Page: 5, Act: a}, {Kind: -1, Page: 6}, {Kind: api.RecCount, Page: 7}, {Kind: api.RecCheck, Page: 8}}, nil},
	} {
		if got := mend.Touched(c.l); !slices.Equal(got, c.want) {
			t.Errorf("Touched(%v): %v, not %v", c.l, got, c.want)
		}
		lookLists(t, c.l)
	}
	// all pages, in any order
	for step := 1; step < 16; step += 2 {
		var l []api.Record
		var want []int
		for i := range 48 {
			l = append(l, update(api.Lsn(16+i), 1, 0, i*step%16, a))
		}
		for i := range 16 {
			want = append(want, i)
		}
		if got := mend.Touched(l); !slices.Equal(got, want) {
			t.Errorf("Touched(%v): %v", l, got)
		}
	}
}

func TestSize(t *testing.T) {
	rows := []api.Txn{{ID: 1, Last: 16}, {ID: 2, State: api.TxnAborted, Last: 16}}
	pages := []api.Dirty{{Page: 0, Rec: 16}, {Page: 1, Rec: 16}, {Page: 2, Rec: 16}}
	// 27 of what each frame has; two of the page, a kind, three texts with two bytes each: nine more; eight of an Undo
	one := map[int]api.Record{
		27:               commit(16, 1, 0),
		27 + 9 + 2:       update(16, 1, 0, 3, insert("a", "x")),
		27 + 9 + 16 + 64: update(16, 1, 0, 3, change(text(16), text(32), text(32))),
		27 + 9 + 8 + 3:   undo(16, 1, 0, 0, 3, remove("ab", "x")),
		27 + 2:           check(16, nil, nil),
		27 + 2 + 26 + 30: check(16, rows, pages),
		0:                commit(15, 1, 0),
	}
	all, sum := []api.Record{}, 0
	for want, r := range one {
		if got := mend.Size([]api.Record{r}); got != want {
			t.Errorf("Size of %v: %d, not %d", r, got, want)
		}
		for range 3 {
			all = append(all, r)
			sum += want
			if got := mend.Size(all); got != sum {
				t.Errorf("Size(%v): %d, not %d", all, got, sum)
			}
			lookLists(t, all)
		}
	}
	for _, k := range everyKind() {
		lookLists(t, []api.Record{record(k, 16, 1, 0), record(k, 16, 1, 0)})
	}
	if a, b := mend.Size(nil), mend.Size([]api.Record{}); a != 0 || b != 0 {
		t.Error("of none:", a, b)
	}
	for _, r := range []api.Record{{}, commit(16, 0, 0), commit(1<<60+16, 1, 0), update(16, 1, 0, 16, insert("a", "x")), update(16, 1, 0, 0, api.Act{}), update(16, 1, 16, 0, insert("a", "x")), {Kind: api.RecCount, Lsn: 16, Txn: 1}} {
		if got := mend.Size([]api.Record{r}); got != 0 {
			t.Errorf("Size of %v: %d", r, got)
		}
		if got := mend.Size([]api.Record{commit(16, 1, 0), r, commit(16, 1, 0)}); got != 54 {
			t.Errorf("Size with %v: %d", r, got)
		}
	}
	// a transaction that is taken back needs what its records' frames have
	l := []api.Record{update(16, 1, 0, 0, insert("a", "x"))}
	b, e := mend.Back(l, clock(t, 0, 0))
	if e != api.OK || mend.Size(b) != 27+46+27 {
		t.Error("what takes back:", mend.Size(b), e)
	}
}
