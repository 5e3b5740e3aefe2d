package act_test

import (
	"math"
	"math/rand"
	"slices"
	"testing"

	"flotilla/act"
	"flotilla/api"
)

// 7.2, 7.4

func TestTurn(t *testing.T) {
	for _, c := range [][2]api.Act{
		{ins("a", "x"), del("a", "x")},
		{ins("a", ""), del("a", "")},
		{ins(text(16), text(32)), del(text(16), text(32))},
		{upd("a", "x", "y"), upd("a", "y", "x")},
		{upd("a", "x", "x"), upd("a", "x", "x")},
		{upd("a", "", "y"), upd("a", "y", "")},
		{upd("a", "", ""), upd("a", "", "")},
		{upd(text(16), text(32), text(31)), upd(text(16), text(31), text(32))},
	} {
		if a := act.Turn(c[0]); a != c[1] {
			t.Errorf("Turn of %v: %v, and should be %v", c[0], a, c[1])
		}
		if a := act.Turn(c[1]); a != c[0] {
			t.Errorf("Turn of %v: %v, and should be %v", c[1], a, c[0])
		}
	}
}

func TestTurnTwice(t *testing.T) {
	for _, a := range rightActs() {
		b := act.Turn(a)
		if !act.May(b) || b.Key != a.Key || b.Old != a.New || b.New != a.Old || b.Kind != 4-a.Kind {
			t.Errorf("Turn of %v: %v", a, b)
		}
		if act.Turn(b) != a {
			t.Errorf("twice: of %v %v", a, act.Turn(b))
		}
	}
}

func TestTurnOfWrongActs(t *testing.T) {
	for _, a := range wrongActs() {
		if b := act.Turn(a); b != (api.Act{}) {
			t.Errorf("Turn of %v: %v", a, b)
		}
	}
}

// record is one of a change, with fields that all differ.
func record(kind api.Kind, a api.Act) api.Record {
	return api.Record{Kind: kind, Lsn: 100, Txn: 7, Prev: 90, Undo: 80, Page: 5, Act: a}
}

// wantBack asks each field of a record that takes another one back.
func wantBack(t *testing.T, r api.Record, l, prev, undo api.Lsn, turned api.Act) {
	t.Helper()
	b, e := act.Back(r, l, prev, undo)
	if e != api.OK {
		t.Fatalf("Back of %v: %d", r, e)
	}
	if b.Kind != 2 || b.Lsn != l || b.Txn != r.Txn || b.Prev != prev || b.Undo != undo || b.Page != r.Page || b.Act != turned {
		t.Errorf("Back of %v, %d, %d, %d: %v", r, l, prev, undo, b)
	}
	if len(b.Txns) != 0 || len(b.Dirty) != 0 {
		t.Errorf("Back of %v: rows %v, %v", r, b.Txns, b.Dirty)
	}
}

func TestBack(t *testing.T) {
	wantBack(t, record(api.RecUpdate, ins("a", "x")), 200, 190, 180, del("a", "x"))
	wantBack(t, record(api.RecUpdate, upd("a", "x", "y")), 200, 190, 180, upd("a", "y", "x"))
	wantBack(t, record(api.RecUpdate, del("a", "x")), 200, 190, 180, ins("a", "x"))
	for _, a := range rightActs() {
		wantBack(t, record(api.RecUpdate, a), 1, 2, 3, api.Act{Kind: 4 - a.Kind, Key: a.Key, Old: a.New, New: a.Old})
	}
}

// TestBackOfAnyFields: nothing is asked of a record but its kind and its change.
func TestBackOfAnyFields(t *testing.T) {
	lsns := []api.Lsn{0, 1, 15, 16, 100, 1<<60 + 15, 1<<60 + 16, 1 << 63, math.MaxUint64}
	c := rand.New(rand.NewSource(72))
	for _, txn := range []int{math.MinInt, -1, 0, 1, 1 << 30, 1<<30 + 1, math.MaxInt} {
		for _, page := range []int{math.MinInt, -1, 0, 15, 16, math.MaxInt} {
			r := api.Record{Kind: api.RecUpdate, Txn: txn, Page: page, Act: upd("a", "x", "y")}
			for range 20 {
				r.Lsn, r.Prev, r.Undo = lsns[c.Intn(len(lsns))], lsns[c.Intn(len(lsns))], lsns[c.Intn(len(lsns))]
				wantBack(t, r, lsns[c.Intn(len(lsns))], lsns[c.Intn(len(lsns))], lsns[c.Intn(len(lsns))], upd("a", "y", "x"))
			}
		}
	}
}

// TestBackLeavesRows: rows that a record of a change hasn't are neither told on nor changed.
func TestBackLeavesRows(t *testing.T) {
	r := record(api.RecUpdate, ins("a", "x"))
	r.Txns, r.Dirty = []api.Txn{{ID: 1, Last: 16}, {ID: 2}}, []api.Dirty{{Page: 1, Rec: 16}}
	wantBack(t, r, 200, 190, 180, del("a", "x"))
	if !slices.Equal(r.Txns, []api.Txn{{ID: 1, Last: 16}, {ID: 2}}) || !slices.Equal(r.Dirty, []api.Dirty{{Page: 1, Rec: 16}}) {
		t.Error("the rows:", r)
	}
}

func wantNoBack(t *testing.T, r api.Record) {
	t.Helper()
	b, e := act.Back(r, 200, 190, 180)
	if e != api.ErrArg {
		t.Errorf("Back of %v: %d", r, e)
	}
	if b.Kind != 0 || b.Lsn != 0 || b.Txn != 0 || b.Prev != 0 || b.Undo != 0 || b.Page != 0 || b.Act != (api.Act{}) || len(b.Txns) != 0 || len(b.Dirty) != 0 {
		t.Errorf("Back of %v: %v beside an error", r, b)
	}
}

func TestBackOfOtherKinds(t *testing.T) {
	for _, k := range recKinds() {
		if k == 1 {
			continue
		}
		for _, a := range rightActs() {
			wantNoBack(t, record(k, a))
		}
		wantNoBack(t, record(k, api.Act{}))
	}
	for _, a := range rightActs() { // what takes one back isn't taken back itself
		b, _ := act.Back(record(api.RecUpdate, a), 200, 190, 180)
		wantNoBack(t, b)
	}
}

func TestBackOfWrongActs(t *testing.T) {
	for _, a := range wrongActs() {
		wantNoBack(t, record(api.RecUpdate, a))
		wantNoBack(t, record(api.RecUndo, a))
	}
}
