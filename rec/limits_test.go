package rec_test

import (
	"fmt"
	"math"
	"slices"
	"strconv"

	"flotilla/api"
)

// named is a record, and what about it is at a limit, or past one.
type named struct {
	name string
	r    api.Record
}

// cases gathers records that may be, and such as may not; each differs from one that may be in one thing alone.
type cases struct{ good, bad []named }

func (c *cases) add(may bool, what string, r api.Record) {
	n := named{"kind " + strconv.Itoa(int(r.Kind)) + ", " + what, r}
	if may {
		c.good = append(c.good, n)
	} else {
		c.bad = append(c.bad, n)
	}
}

// numbers adds a record with each number in a field.
func numbers[N ~int | ~uint64](c *cases, may bool, what string, r api.Record, set func(r *api.Record, n N), l ...N) {
	for _, n := range l {
		c.add(may, fmt.Sprint(what, " ", n), with(r, func(r *api.Record) { set(r, n) }))
	}
}

// wrongInts has numbers that are wrong whatever the field is, among them such as cut to 8, 16 or 32 bits were right.
func wrongInts() []int {
	return []int{math.MinInt, math.MinInt32, -1 << 32, -1<<32 + 1, -1 << 16, -256, -255, -1, 1<<32 + 1, 1<<32 + 2, 1<<40 + 1, math.MaxInt - 255, math.MaxInt}
}

func wrongLsns() []api.Lsn {
	return []api.Lsn{0, 1, 14, 15, 1<<60 + 16, 1<<60 + 17, 1 << 61, 1<<62 + 16, 1 << 63, 1<<63 + 16, math.MaxUint64}
}

func rightLsns() []api.Lsn {
	return []api.Lsn{16, 17, 24, 1 << 32, 1 << 59, 1 << 60, 1<<60 + 14, 1<<60 + 15}
}

func limits() *cases {
	c := &cases{}
	for _, k := range kinds() {
		r := base(k)
		c.add(true, "as it is", r)
		c.heads(r)
		c.ofTxns(r)
		c.undos(r)
		if isChange(k) {
			c.pages(r)
			c.acts(r)
		} else {
			c.noChange(r)
		}
		if k != check {
			c.noTables(r)
		}
	}
	c.counts()
	c.txnRows()
	c.dirtyRows()
	return c
}

func (c *cases) heads(r api.Record) {
	numbers(c, false, "Kind", r, func(r *api.Record, n int) { r.Kind = api.Kind(n) }, append(wrongInts(), 0, 9, 10, 16, 128, 255, 256, 256+int(r.Kind), 1<<16+int(r.Kind), 1<<32+int(r.Kind))...)
	first := func(r *api.Record, l api.Lsn) { r.Lsn, r.Prev, r.Undo = l, 0, 0 }
	numbers(c, true, "Lsn", r, first, rightLsns()...)
	numbers(c, false, "Lsn", r, first, wrongLsns()...)
}

func (c *cases) ofTxns(r api.Record) {
	setTxn := func(r *api.Record, n int) { r.Txn = n }
	setPrev := func(r *api.Record, l api.Lsn) { r.Prev = l }
	numbers(c, false, "Txn", r, setTxn, append(wrongInts(), 1<<30+1, 1<<31, 1<<31+1)...)
	if isCheckpoint(r.Kind) {
		numbers(c, true, "Txn", r, setTxn, 0)
		numbers(c, false, "Txn", r, setTxn, 1, 2, lastTxn, 1<<32)
		numbers(c, true, "Prev", r, setPrev, 0)
		numbers(c, false, "Prev", r, setPrev, 1, 16, r.Lsn-1, r.Lsn, 1<<32, math.MaxUint64)
		return
	}
	numbers(c, true, "Txn", r, setTxn, 1, 2, 1<<16, lastTxn-1, lastTxn)
	numbers(c, false, "Txn", r, setTxn, 0, 1<<32)
	numbers(c, true, "Prev", r, setPrev, 0, 1, 15, 16, 17, r.Lsn-1)
	numbers(c, false, "Prev", r, setPrev, r.Lsn, r.Lsn+1, lastLsn, math.MaxUint64)
	edge := with(r, func(r *api.Record) { r.Lsn, r.Prev, r.Undo = 16, 15, 0 })
	c.add(true, "Prev 15 of Lsn 16", edge)
	c.add(false, "Prev 16 of Lsn 16", with(edge, func(r *api.Record) { r.Prev = 16 }))
	edge = with(r, func(r *api.Record) { r.Lsn, r.Prev, r.Undo = lastLsn, lastLsn-1, 0 })
	c.add(true, "Prev just below the last Lsn", edge)
	c.add(false, "Prev at the last Lsn", with(edge, func(r *api.Record) { r.Prev = lastLsn }))
}

func (c *cases) undos(r api.Record) {
	setUndo := func(r *api.Record, l api.Lsn) { r.Undo = l }
	numbers(c, true, "Undo", r, setUndo, 0)
	numbers(c, r.Kind == undo, "Undo", r, setUndo, 1, 15, 16, r.Prev+1, r.Lsn-1)
	numbers(c, false, "Undo", r, setUndo, r.Lsn, r.Lsn+1, lastLsn, math.MaxUint64)
	edge := with(r, func(r *api.Record) { r.Lsn, r.Prev, r.Undo = 16, 0, 15 })
	c.add(r.Kind == undo, "Undo 15 of Lsn 16", edge)
	c.add(false, "Undo 16 of Lsn 16", with(edge, func(r *api.Record) { r.Undo = 16 }))
}

func (c *cases) pages(r api.Record) {
	setPage := func(r *api.Record, n int) { r.Page = n }
	numbers(c, true, "Page", r, setPage, 0, 1, 7, 14, 15)
	numbers(c, false, "Page", r, setPage, append(wrongInts(), 16, 17, 255, 256, 1<<16, 1<<16+1, 1<<32)...)
}

// acts has changes of each kind, with keys and values of all lengths at the limits.
func (c *cases) acts(r api.Record) {
	for _, k := range []api.ActKind{inserted, updated, deleted} {
		act := api.Act{Kind: k, Key: "k", Old: "o", New: "n"}
		if k == inserted {
			act.Old = ""
		}
		if k == deleted {
			act.New = ""
		}
		r := with(r, func(r *api.Record) { r.Act = act })
		c.lengths("Key", r, func(r *api.Record, s string) { r.Act.Key = s }, 1, 16)
		most := [...]int{inserted: 0, updated: 32, deleted: 32}
		c.lengths("Old", r, func(r *api.Record, s string) { r.Act.Old = s }, 0, most[k])
		most = [...]int{inserted: 32, updated: 32, deleted: 0}
		c.lengths("New", r, func(r *api.Record, s string) { r.Act.New = s }, 0, most[k])
		c.add(true, "all as long as may be", with(r, func(r *api.Record) {
			r.Act.Key, r.Act.Old, r.Act.New = text(16), text(32*len(r.Act.Old)), text(32*len(r.Act.New))
		}))
		for _, key := range []string{"\x00", "\xff\xfe\x80", " ", "\xe2\x82\xac", "0123456789abcde\x00"} {
			c.add(true, "Key "+strconv.Quote(key), with(r, func(r *api.Record) { r.Act.Key = key }))
		}
	}
	for _, value := range []string{"", "same"} {
		c.add(true, "Old as New", with(r, func(r *api.Record) { r.Act.Old, r.Act.New = value, value }))
	}
	bare := with(r, func(r *api.Record) { r.Act.Old, r.Act.New = "", "" })
	for _, r := range []api.Record{r, bare} {
		numbers(c, false, "Act.Kind", r, func(r *api.Record, n int) { r.Act.Kind = api.ActKind(n) }, append(wrongInts(), 0, 4, 5, 255, 256, 257, 258, 259, 1<<16+1)...)
	}
	c.add(false, "no Act", with(r, func(r *api.Record) { r.Act = api.Act{} }))
}

func (c *cases) lengths(what string, r api.Record, set func(r *api.Record, s string), least, most int) {
	for _, n := range []int{0, 1, 2, 15, 16, 17, 18, 31, 32, 33, 34, 255, 256, 257, 65535, 65536, 65537, 65536 + 16} {
		may := n >= least && n <= most
		c.add(may, what+" of "+strconv.Itoa(n)+" bytes, Act.Kind "+strconv.Itoa(int(r.Act.Kind)), with(r, func(r *api.Record) { set(r, text(n)) }))
	}
}

// noChange has a page or a change, or one part of it, with a record that may not have them.
func (c *cases) noChange(r api.Record) {
	numbers(c, false, "Page", r, func(r *api.Record, n int) { r.Page = n }, append(wrongInts(), 1, 2, 15, 16, 1<<16, 1<<32)...)
	for _, a := range []api.Act{
		{Kind: inserted, Key: "k", New: "n"}, {Kind: updated, Key: "k", Old: "o", New: "n"}, {Kind: deleted, Key: "k", Old: "o"},
		{Kind: inserted}, {Kind: -1}, {Kind: 256}, {Key: "k"}, {Old: "o"}, {New: "n"}, {Key: text(17)},
	} {
		c.add(false, "an Act", with(r, func(r *api.Record) { r.Act = a }))
	}
}

// noTables has rows with a record that may not have them.
func (c *cases) noTables(r api.Record) {
	for _, n := range []int{1, 16, 64, 256} {
		c.add(false, "rows of Txns: "+strconv.Itoa(n), with(r, func(r *api.Record) { r.Txns = txns(n) }))
		c.add(false, "rows of Dirty: "+strconv.Itoa(n), with(r, func(r *api.Record) { r.Dirty = dirties(n) }))
	}
	c.add(false, "rows of both", with(r, func(r *api.Record) { r.Txns, r.Dirty = txns(2), dirties(2) }))
	c.add(false, "a zero row of Txns", with(r, func(r *api.Record) { r.Txns = make([]api.Txn, 1) }))
	c.add(false, "a zero row of Dirty", with(r, func(r *api.Record) { r.Dirty = make([]api.Dirty, 1) }))
	c.add(true, "empty lists", with(r, func(r *api.Record) { r.Txns, r.Dirty = []api.Txn{}, []api.Dirty{} }))
}

func (c *cases) counts() {
	r := base(check)
	for _, n := range []int{0, 1, 2, 63, 64, 65, 66, 128, 255, 256, 257, 256 + 64, 1000} {
		c.add(n <= 64, "rows of Txns: "+strconv.Itoa(n), with(r, func(r *api.Record) { r.Txns = txns(n) }))
	}
	for _, n := range []int{0, 1, 2, 15, 16, 17, 18, 255, 256, 257, 1000} {
		c.add(n <= 16, "rows of Dirty: "+strconv.Itoa(n), with(r, func(r *api.Record) { r.Dirty = dirties(n) }))
	}
	c.add(false, "rows of Dirty: 17, one twice", with(r, func(r *api.Record) { r.Dirty = append(dirties(16), api.Dirty{Page: 15, Rec: 16}) }))
	c.add(true, "no rows", with(r, func(r *api.Record) { r.Txns, r.Dirty = nil, nil }))
	c.add(true, "empty lists", with(r, func(r *api.Record) { r.Txns, r.Dirty = []api.Txn{}, []api.Dirty{} }))
	c.add(true, "all rows", with(r, func(r *api.Record) { r.Txns, r.Dirty = txns(64), dirties(16) }))
	c.add(true, "rows that know later records", with(r, func(r *api.Record) {
		r.Txns, r.Dirty = []api.Txn{{ID: 1, Last: r.Lsn}, {ID: 2, Last: r.Lsn + 1}}, []api.Dirty{{Page: 1, Rec: r.Lsn}, {Page: 2, Rec: lastLsn}}
	}))
}

func (c *cases) txnRows() {
	one := with(base(check), func(r *api.Record) { r.Txns = []api.Txn{{ID: 1, Last: 16}} })
	// of three rows each is asked, so that no row is passed over
	c.txnFields(one, 0)
	for i := range 3 {
		c.txnFields(base(check), i)
	}
	for _, ids := range [][]int{{1, 1}, {2, 1}, {lastTxn, lastTxn}, {lastTxn, 1}, {1, 2, 2}, {1, 3, 2}, {2, 1, 3}, {1, 1, 2}, {3, 2, 1}, {2, 3, 1}} {
		rows := func(r *api.Record) {
			r.Txns = nil
			for i, id := range ids {
				r.Txns = append(r.Txns, api.Txn{ID: id, State: api.TxnState(i % 3), Last: api.Lsn(16 + i)})
			}
		}
		c.add(false, "Txns that don't rise", with(one, rows))
	}
	all := with(one, func(r *api.Record) { r.Txns = txns(64) })
	for i := range 63 {
		c.add(false, "two rows of Txns swapped", with(all, func(r *api.Record) { r.Txns[i], r.Txns[i+1] = r.Txns[i+1], r.Txns[i] }))
		c.add(false, "a row of Txns twice", with(all, func(r *api.Record) { r.Txns[i+1] = r.Txns[i] }))
	}
	c.add(true, "side by side", with(one, func(r *api.Record) { r.Txns = []api.Txn{{ID: 1, Last: 99}, {ID: 2, Last: 16}, {ID: 3, Last: 99}} }))
	c.add(false, "falling behind", with(all, func(r *api.Record) { slices.Reverse(r.Txns) }))
}

func (c *cases) txnFields(r api.Record, i int) {
	numbers(c, false, "ID", r, func(r *api.Record, n int) { r.Txns[i].ID = n }, append(wrongInts(), 0, 1<<30+1, 1<<31, 1<<31+1, 1<<32)...)
	setState := func(r *api.Record, n int) { r.Txns[i].State = api.TxnState(n) }
	numbers(c, true, "State", r, setState, 0, 1, 2)
	numbers(c, false, "State", r, setState, append(wrongInts(), 3, 4, 255, 256, 257, 1<<16, 1<<32)...)
	setLast := func(r *api.Record, l api.Lsn) { r.Txns[i].Last = l }
	numbers(c, true, "Last", r, setLast, rightLsns()...)
	numbers(c, false, "Last", r, setLast, wrongLsns()...)
	alone := with(r, func(r *api.Record) { r.Txns = []api.Txn{r.Txns[i]} })
	numbers(c, true, "ID", alone, func(r *api.Record, n int) { r.Txns[0].ID = n }, 1, 2, 1<<16, lastTxn-1, lastTxn)
}

func (c *cases) dirtyRows() {
	one := with(base(check), func(r *api.Record) { r.Dirty = []api.Dirty{{Page: 0, Rec: 16}} })
	c.dirtyFields(one, 0)
	for i := range 3 {
		c.dirtyFields(base(check), i)
	}
	for _, pages := range [][]int{{0, 0}, {1, 0}, {15, 15}, {15, 0}, {0, 1, 1}, {0, 2, 1}, {1, 0, 2}, {0, 0, 1}, {2, 1, 0}, {1, 2, 0}} {
		rows := func(r *api.Record) {
			r.Dirty = nil
			for i, page := range pages {
				r.Dirty = append(r.Dirty, api.Dirty{Page: page, Rec: api.Lsn(16 + i)})
			}
		}
		c.add(false, "Dirty that doesn't rise", with(one, rows))
	}
	all := with(one, func(r *api.Record) { r.Dirty = dirties(16) })
	for i := range 15 {
		c.add(false, "two rows of Dirty swapped", with(all, func(r *api.Record) { r.Dirty[i], r.Dirty[i+1] = r.Dirty[i+1], r.Dirty[i] }))
		c.add(false, "a row of Dirty twice", with(all, func(r *api.Record) { r.Dirty[i+1] = r.Dirty[i] }))
	}
	c.add(true, "side by side", with(one, func(r *api.Record) {
		r.Dirty = []api.Dirty{{Page: 0, Rec: 99}, {Page: 1, Rec: 16}, {Page: 2, Rec: 99}}
	}))
	c.add(false, "falling behind", with(all, func(r *api.Record) { slices.Reverse(r.Dirty) }))
}

func (c *cases) dirtyFields(r api.Record, i int) {
	numbers(c, false, "Page of a row", r, func(r *api.Record, n int) { r.Dirty[i].Page = n }, append(wrongInts(), 16, 17, 255, 256, 1<<16+16, 1<<32+16)...)
	setRec := func(r *api.Record, l api.Lsn) { r.Dirty[i].Rec = l }
	numbers(c, true, "Rec", r, setRec, rightLsns()...)
	numbers(c, false, "Rec", r, setRec, wrongLsns()...)
	alone := with(r, func(r *api.Record) { r.Dirty = []api.Dirty{r.Dirty[i]} })
	numbers(c, true, "Page of a row", alone, func(r *api.Record, n int) { r.Dirty[0].Page = n }, 0, 1, 14, 15)
	numbers(c, false, "Page of a row", alone, func(r *api.Record, n int) { r.Dirty[0].Page = n }, -1, 16, 1<<16, 1<<32)
}
