package mend_test

import (
	"math/rand"
	"reflect"
	"slices"
	"testing"

	"flotilla/api"
	"flotilla/find"
	"flotilla/mend"
)

// 19.2, 19.4, memory, P1: every short log, long logs, great ones, and any arguments

// choices is every record that may stand behind the first n of a short log (with the LSNs 16, 32, ..), of two transactions.
func choices(n int) []api.Record {
	at := api.Lsn(16 + 16*n)
	lower := []api.Lsn{0}
	for i := range n {
		lower = append(lower, api.Lsn(16+16*i))
	}
	var all []api.Record
	for txn := 1; txn <= 2; txn++ {
		for _, prev := range lower {
			for _, k := range kinds() {
				x := record(k, at, txn, prev)
				x.Page = map[bool]int{true: n}[k == api.RecUpdate || k == api.RecUndo]
				if k != api.RecUndo {
					all = append(all, x)
					continue
				}
				for _, u := range append(lower, at-1) {
					x.Undo = u
					all = append(all, x)
				}
			}
		}
	}
	return all
}

// shortLogs goes through all logs of so many records.
func shortLogs(n int, look func(l []api.Record)) {
	var grow func(l []api.Record)
	grow = func(l []api.Record) {
		if len(l) == n {
			look(l)
			return
		}
		for _, x := range choices(len(l)) {
			grow(append(slices.Clip(l), x))
		}
	}
	grow(nil)
}

func TestEveryShortLog(t *testing.T) {
	ends(t, "short logs", func() {
		codes := map[api.Errno]int{}
		for n := range 4 {
			shortLogs(n, func(l []api.Record) {
				b, e := lookBack(t, l, n, uint64(n))
				codes[e]++
				if e == api.OK {
					tellsTheRest(t, l, b, n, uint64(n))
				}
			})
		}
		i := 0
		shortLogs(4, func(l []api.Record) {
			if i++; i%23 == 0 {
				_, e := lookBack(t, l, i%8, uint64(i%7))
				codes[e]++
			}
		})
		if codes[api.OK] < 30000 || codes[api.ErrNone] < 30000 || len(codes) != 2 {
			t.Error("too few of a kind:", codes)
		}
	})
}

// tellsTheRest asks of each beginning of what Back told, by a clock that was like this, that Back tells the rest, which is nothing behind the whole.
func tellsTheRest(t *testing.T, l, b []api.Record, inst int, count uint64) {
	t.Helper()
	for k := range len(b) + 1 {
		torn := join(l, b[:k])
		rest, e := mend.Back(torn, clock(t, inst, count))
		if e != api.OK || !sameRecords(rest, b[k:]) {
			t.Fatalf("Back(%v), of which %d were told: %v, %d, not %v", torn, k, rest, e, b[k:])
		}
	}
	if left, e := find.All(join(l, b)); e != api.OK || len(left.Txns) != 0 {
		t.Fatalf("%v and %v leave %v, %d", l, b, left, e)
	}
}

// drawer draws logs: it knows of each transaction what is right, and sometimes does another thing.
type drawer struct {
	r     *rand.Rand
	l     []api.Record
	wrong int // one in so many has a Prev or an Undo that leads anywhere; 0: none
}

func (d *drawer) errs() bool { return d.wrong > 0 && d.r.Intn(d.wrong) == 0 }

// at is the next LSN, a valid one, with a gap or without.
func (d *drawer) at() api.Lsn {
	if len(d.l) == 0 {
		return api.Lsn(16 + d.r.Intn(8))
	}
	at := d.l[len(d.l)-1].Lsn + api.Lsn(1+d.r.Intn(20))
	if at%16 > 7 {
		at += 16 - at%16
	}
	return at
}

// somewhere is an LSN below one: 0, that of a record, or any.
func (d *drawer) somewhere(below api.Lsn) api.Lsn {
	switch n := d.r.Intn(6); {
	case n == 0:
		return 0
	case n == 1 || len(d.l) == 0:
		return api.Lsn(d.r.Intn(int(below)))
	}
	return d.l[d.r.Intn(len(d.l))].Lsn
}

func (d *drawer) act() api.Act {
	key, a, b := string(rune('a'+d.r.Intn(5))), text(d.r.Intn(33)), text(d.r.Intn(3))
	return []api.Act{insert(key, a), change(key, a, b), change(key, b, a), remove(key, a)}[d.r.Intn(4)]
}

func (d *drawer) put(id int) {
	x := record(kinds()[[]int{0, 0, 0, 0, 0, 0, 1, 1, 1, 2, 3, 4, 5, 5}[d.r.Intn(14)]], d.at(), id, 0)
	own := debt{}
	for _, y := range debts(d.l) {
		if y.id == id {
			own = y
		}
	}
	x.Prev = own.last
	if d.errs() {
		x.Prev = d.somewhere(x.Lsn)
	}
	switch x.Kind {
	case api.RecUpdate:
		x.Page, x.Act = d.r.Intn(16), d.act()
	case api.RecUndo:
		r, ok := with(d.l, own.next)
		if !ok || r.Kind != api.RecUpdate {
			return
		}
		x.Page, x.Act, x.Undo = r.Page, turned(r.Act), told(d.l, r.Prev)
		if d.errs() {
			x.Undo = d.somewhere(x.Lsn)
		}
	}
	d.l = append(d.l, x)
}

func drawn(r *rand.Rand, n, ids, wrong int) []api.Record {
	d := &drawer{r: r, wrong: wrong}
	for range r.Intn(n + 1) {
		switch r.Intn(20) {
		case 0:
			d.l = append(d.l, opens(d.at()))
		case 1:
			d.l = append(d.l, check(d.at(), []api.Txn{{ID: 1 + r.Intn(ids), State: api.TxnState(r.Intn(3)), Last: 16}}, []api.Dirty{{Page: r.Intn(16), Rec: 17}}))
		default:
			d.put(1 + r.Intn(ids))
		}
	}
	return d.l
}

// lifted is a log whose numbers are all greater by as much.
func lifted(l []api.Record, by api.Lsn) []api.Record {
	c := deep(slices.Clip(l))
	lift := func(at *api.Lsn) {
		if *at > 0 {
			*at += by
		}
	}
	for i := range c {
		lift(&c[i].Lsn)
		lift(&c[i].Prev)
		lift(&c[i].Undo)
	}
	return c
}

// Long logs of drawn records, right ones and others, by clocks of all instances, also near the last LSN.
func TestLongLogs(t *testing.T) {
	ends(t, "long logs", func() {
		r := rand.New(rand.NewSource(192))
		codes, undone := map[api.Errno]int{}, 0
		for i := range 6000 {
			l := drawn(r, []int{8, 40, 120}[i%3], 1+r.Intn(7), []int{0, 0, 3, 6, 20, 60}[r.Intn(6)])
			inst, count := r.Intn(8), uint64(0)
			switch r.Intn(5) {
			case 0:
				count = uint64(r.Intn(300))
			case 1:
				count = 1<<56 - uint64(r.Intn(20))
			case 2:
				if len(l) > 0 {
					last := l[len(l)-1].Lsn
					l = lifted(l, api.Lsn(16*(1<<56-uint64(r.Intn(30))))-last/16*16)
				}
			}
			b, e := lookBack(t, l, inst, count)
			codes[e]++
			if e == api.OK {
				tellsTheRest(t, l, b, inst, count)
				undone += len(b)
			}
			lookLists(t, l)
			lookMake(t, newPage(t, r.Intn(16)), l)
		}
		if codes[api.OK] < 2000 || codes[api.ErrNone] < 300 || codes[api.ErrOver] < 300 || len(codes) != 3 || undone < 20000 {
			t.Error("too few of a kind:", codes, undone)
		}
	})
}

// Logs with a fault, anywhere, are none, and only then.
func TestLogsWithAFault(t *testing.T) {
	ends(t, "faults", func() {
		r := rand.New(rand.NewSource(1920))
		refused := 0
		for range 4000 {
			l := drawn(r, 20, 4, 10)
			if len(l) == 0 {
				continue
			}
			x := &l[r.Intn(len(l))]
			switch r.Intn(9) {
			case 0:
				x.Lsn = l[r.Intn(len(l))].Lsn
			case 1:
				x.Lsn = api.Lsn(r.Intn(300))
			case 2:
				x.Prev = x.Lsn + api.Lsn(r.Intn(3)) - 1
			case 3:
				x.Undo = api.Lsn(r.Intn(3)) * 16
			case 4:
				x.Kind = api.Kind(r.Intn(12) - 1)
			case 5:
				x.Txn = []int{0, -1, api.MaxTxn, api.MaxTxn + 1}[r.Intn(4)]
			case 6:
				x.Page = r.Intn(20) - 2
			case 7:
				x.Act.Key = text(r.Intn(20))
			case 8:
				x.Txns = []api.Txn{{ID: r.Intn(3), Last: 16}}
			}
			if _, e := lookBack(t, l, r.Intn(8), 0); e == api.ErrArg {
				refused++
			}
			lookLists(t, l)
			lookMake(t, newPage(t, r.Intn(16)), l)
		}
		if refused < 1000 || refused > 3500 {
			t.Error("too few faults, or too many:", refused)
		}
	})
}

// withRoom is records whose lists have room behind them, in which something stands.
func withRoom() []api.Record {
	rows := []api.Txn{{ID: 1, Last: 16}, {ID: 2, Last: 17}, {ID: 77, Last: 77}}
	pages := []api.Dirty{{Page: 1, Rec: 16}, {Page: 2, Rec: 17}, {Page: 77, Rec: 77}}
	l := []api.Record{
		update(16, 1, 0, 1, insert("a", "x")),
		save(32, 2, 0),
		check(48, rows[:2], pages[:2]),
		update(64, 1, 16, 2, insert("a", "x")),
		update(80, 2, 32, 3, insert("a", "x")),
		abort(96, 2, 80),
		update(112, 3, 0, 1, insert("b", "x")),
		{Lsn: 77, Txns: rows[2:], Dirty: pages[2:]},
	}
	return l
}

// What is handed in stays; what is told may be written over; and what is handed in may be, too.
func TestMemory(t *testing.T) {
	for n := range 8 {
		l := withRoom()[:n]
		was := deep(l)
		a, _ := mend.Back(l, clock(t, 0, 0))
		b, _ := mend.Back(l, clock(t, 0, 0))
		p, q := mend.Touched(l), mend.Touched(l)
		made := newPage(t, 1)
		if _, e := mend.Make(made, l); e != api.OK {
			t.Fatal(e)
		}
		has := made.Clone()
		mend.Size(l)
		if !reflect.DeepEqual(deep(l), was) {
			t.Fatalf("what was handed in became %v", deep(l))
		}
		want, wantPages := deep(slices.Clip(b)), slices.Clone(q)
		scribble(a)
		for i := range p[:cap(p)] {
			p[:cap(p)][i] = 99
		}
		if !sameRecords(b, want) || !slices.Equal(q, wantPages) {
			t.Fatalf("two answers share memory: %v, %v", b, q)
		}
		if !reflect.DeepEqual(deep(l), was) {
			t.Fatalf("what was told is what was handed in: %v", deep(l))
		}
		if c, e := mend.Back(l, clock(t, 0, 0)); e != api.OK || !sameRecords(c, want) || !slices.Equal(mend.Touched(l), wantPages) {
			t.Fatalf("what was told is kept: %v, %d", c, e)
		}
		scribble(l)
		if !sameRecords(b, want) || !slices.Equal(q, wantPages) || !samePage(made, has) {
			t.Fatalf("what was handed in is kept in what was told: %v, %v, %v", b, q, made.Cells())
		}
	}
}

// scribble writes over records, and over what stands in the room behind them.
func scribble(l []api.Record) {
	l = l[:cap(l)]
	for i := range l {
		for k := range l[i].Txns {
			l[i].Txns[k] = api.Txn{ID: 99, State: 99, Last: 99}
		}
		for k := range l[i].Dirty {
			l[i].Dirty[k] = api.Dirty{Page: 99, Rec: 99}
		}
		l[i] = api.Record{Kind: 99, Lsn: 99, Txn: 99, Prev: 99, Undo: 99, Page: 99}
	}
}

// What a call tells hangs on its arguments alone, not on what was asked ahead.
func TestKeepsNothing(t *testing.T) {
	r := rand.New(rand.NewSource(1921))
	var logs, told [][]api.Record
	for range 200 {
		l := drawn(r, 30, 5, 0)
		b, _ := lookBack(t, l, 3, 0)
		logs, told = append(logs, l), append(told, deep(slices.Clip(b)))
	}
	for i, l := range slices.Backward(logs) {
		if b, _ := lookBack(t, l, 3, 0); !sameRecords(b, told[i]) {
			t.Fatalf("Back(%v): %v, and before %v", l, b, told[i])
		}
	}
}

// P1

func TestAnyArguments(t *testing.T) {
	ends(t, "any arguments", func() {
		r := rand.New(rand.NewSource(99))
		number := func() int { return ints()[r.Intn(len(ints()))] }
		texts := []int{0, 1, 16, 17, 32, 33, 300, 70000}
		word := func() string { return text(texts[r.Intn(len(texts))]) }
		for range 20000 {
			var l []api.Record
			for range r.Intn(4) {
				if r.Intn(2) == 0 {
					l = append(l, drawn(r, 3, 3, 3)...)
				}
				x := api.Record{Kind: api.Kind(number()), Lsn: api.Lsn(number()), Txn: number(), Prev: api.Lsn(number()), Undo: api.Lsn(number()), Page: number()}
				if r.Intn(2) == 0 {
					x.Act = api.Act{Kind: api.ActKind(number()), Key: word(), Old: word(), New: word()}
				}
				for range []int{0, 0, 1, 3, 100}[r.Intn(5)] {
					x.Txns = append(x.Txns, api.Txn{ID: number(), State: api.TxnState(number()), Last: api.Lsn(number())})
					x.Dirty = append(x.Dirty, api.Dirty{Page: number(), Rec: api.Lsn(number())})
				}
				l = append(l, x)
			}
			lookBack(t, l, r.Intn(8), []uint64{0, 1, 5, 1<<56 - 1, 1 << 56}[r.Intn(5)])
			lookLists(t, l)
			p := newPage(t, r.Intn(16))
			p.Stamp(api.Lsn(number()))
			lookMake(t, p, l)
			mend.Back(l, nil)
			mend.Make(nil, l)
		}
	})
}

// Few records that may be, with LSNs of all instances and of none, and Prevs and Undos that lead anywhere.
func TestAnyPrevs(t *testing.T) {
	ends(t, "any Prevs", func() {
		lsns := []api.Lsn{0, 16, 23, 24, 32, 48}
		for code := range 6 * 6 * 6 * 6 * 6 * 6 {
			var n [6]api.Lsn
			for i := range n {
				n[i] = lsns[code%6]
				code /= 6
			}
			lookBack(t, []api.Record{update(16, 1, n[0], 1, insert("a", "x")), update(24, 1, n[1], 2, insert("b", "x")), undo(47, 1, n[2], n[3], 1, insert("c", "x")), abort(49, 1, n[4]), undo(56, 2, 0, n[5], 1, insert("c", "x"))}, 0, 0)
		}
	})
}

// Great logs: of one transaction, of very many, and with very long ways back from each record.
func TestGreatLogs(t *testing.T) {
	ends(t, "great logs", func() {
		const many = 200000
		a := insert("a", "x")
		var one, all, ways []api.Record
		for i := range many {
			at := api.Lsn(16 + 16*i)
			one = append(one, update(at, 7, at-16, i%16, a))
			all = append(all, update(at, many-i, 0, i%16, a))
			if i < many/2 {
				ways = append(ways, save(at, 1, at-16))
			} else {
				ways = append(ways, update(at, 1+i, 8*many, 3, a)) // the last of the RecSaves
			}
		}
		for what, c := range map[string]struct {
			l      []api.Record
			aborts int
			undos  int
		}{"one transaction": {one, 1, many}, "many transactions": {all, many, many}, "long ways": {ways, many/2 + 1, many / 2}} {
			b, e := mend.Back(c.l, clock(t, 0, 0))
			if e != api.OK || len(b) != 2*c.aborts+c.undos {
				t.Fatal(what, e, len(b))
			}
			for i, r := range b {
				if r.Lsn != api.Lsn(16*(many+1+i)) {
					t.Fatal(what, i, r)
				}
			}
			last := api.Lsn(1 << 62)
			for _, r := range b {
				if r.Kind == api.RecUndo && r.Undo >= last {
					t.Fatal(what, "doesn't fall:", r)
				}
				if r.Kind == api.RecUndo && r.Undo > 0 {
					last = r.Undo
				}
			}
			if rest, e := mend.Back(join(c.l, b), clock(t, 0, 0)); e != api.OK || len(rest) != 0 {
				t.Fatal(what, e, len(rest))
			}
		}
		if got := mend.Touched(one); len(got) != 16 || got[0] != 0 || got[15] != 15 {
			t.Error(got)
		}
		if got := mend.Size(one); got != many*38 {
			t.Error(got)
		}
		p := newPage(t, 3)
		var changes []api.Record
		for i := range many {
			changes = append(changes, update(api.Lsn(16+i), 1, 0, 3, []api.Act{insert("a", "x"), remove("a", "x")}[i%2]))
		}
		if n, e := mend.Make(p, changes); n != many || e != api.OK || len(p.Pairs()) != 0 {
			t.Error(n, e)
		}
	})
}
