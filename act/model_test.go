package act_test

import (
	"bytes"
	"math"
	"math/rand"
	"slices"
	"strings"
	"testing"

	"flotilla/act"
	"flotilla/api"
	"flotilla/page"
)

// What the document says, a second time: a page as a list of slots, and changes of it, with the limits written out.

type model struct {
	id    int
	lsn   api.Lsn
	slots []api.Cell
}

// mayBe takes the chapter's words one by one.
func mayBe(a api.Act) bool {
	insert, update, remove := a.Kind == 1, a.Kind == 2, a.Kind == 3
	key := len(a.Key) >= 1 && len(a.Key) <= 16
	values := len(a.Old) <= 32 && len(a.New) <= 32
	return key && values && (insert && a.Old == "" || update || remove && a.New == "")
}

func (m *model) find(key string) int {
	return slices.IndexFunc(m.slots, func(c api.Cell) bool { return c.Used && c.Key == key })
}

// taken is how many of a page's bytes slots need.
func taken(slots []api.Cell) int {
	n := 16
	for _, c := range slots {
		n += 4
		if c.Used {
			n += 1 + len(c.Key) + len(c.Value)
		}
	}
	return n
}

// take has these slots from now on, if they fit on a page.
func (m *model) take(slots []api.Cell) api.Errno {
	if len(slots) > 64 || taken(slots) > 512 {
		return api.ErrFull
	}
	m.slots = slots
	return api.OK
}

func (m *model) do(a api.Act) api.Errno {
	if !mayBe(a) {
		return api.ErrArg
	}
	at, slots := m.find(a.Key), slices.Clone(m.slots)
	if a.Kind == 1 {
		return m.insert(at, slots, a)
	}
	if at < 0 {
		return api.ErrNone
	}
	if slots[at].Value != a.Old {
		return api.ErrState
	}
	if a.Kind == 2 {
		slots[at].Value = a.New
		return m.take(slots)
	}
	slots[at] = api.Cell{}
	for len(slots) > 0 && !slots[len(slots)-1].Used {
		slots = slots[:len(slots)-1]
	}
	return m.take(slots)
}

func (m *model) insert(at int, slots []api.Cell, a api.Act) api.Errno {
	if at >= 0 {
		return api.ErrTwice
	}
	free := 0
	for free < len(slots) && slots[free].Used {
		free++
	}
	if free == len(slots) {
		slots = append(slots, api.Cell{})
	}
	slots[free] = api.Cell{Used: true, Key: a.Key, Value: a.New}
	return m.take(slots)
}

func (m *model) redo(r api.Record) (bool, api.Errno) {
	if r.Kind != 1 && r.Kind != 2 {
		return false, api.ErrArg
	}
	if r.Page != m.id {
		return false, api.ErrArg
	}
	if m.lsn >= r.Lsn {
		return false, api.OK
	}
	e := m.do(r.Act)
	if e == api.OK {
		m.lsn = r.Lsn
	}
	return e == api.OK, e
}

// twin is a page, and what it should be.
type twin struct {
	t *testing.T
	p *page.Page
	m *model
}

func begin(t *testing.T, id int) *twin {
	t.Helper()
	p, e := page.New(id)
	if e != api.OK {
		t.Fatal("page", id, e)
	}
	return &twin{t, p, &model{id: id}}
}

// on is a page 5 of these pairs, each in a slot of its own, stamped with 77.
func on(t *testing.T, pairs ...api.Pair) *twin {
	t.Helper()
	x := begin(t, 5)
	for _, c := range pairs {
		x.want(ins(c.Key, c.Value), api.OK)
	}
	x.stamp(77)
	return x
}

func (x *twin) stamp(l api.Lsn) {
	x.p.Stamp(l)
	x.m.lsn = l
}

// same asks that the page is what it should be.
func (x *twin) same(what string) {
	x.t.Helper()
	if x.p.ID() != x.m.id || x.p.Lsn() != x.m.lsn {
		x.t.Fatalf("%s: page %d with %d, and should be %d with %d", what, x.p.ID(), x.p.Lsn(), x.m.id, x.m.lsn)
	}
	if !slices.Equal(x.p.Cells(), x.m.slots) {
		x.t.Fatalf("%s: slots %v, and should be %v", what, x.p.Cells(), x.m.slots)
	}
	if x.p.Free() != 512-taken(x.m.slots) {
		x.t.Fatalf("%s: %d bytes are free, of %v", what, x.p.Free(), x.m.slots)
	}
}

// want plans a change twice, does it, and asks what was told and what the page is then.
func (x *twin) want(a api.Act, want api.Errno) {
	x.t.Helper()
	was := x.p.Bytes()
	for range 2 {
		if e := act.Plan(x.p, a); e != want {
			x.t.Fatalf("Plan of %v: %d, and should be %d", a, e, want)
		}
		if !bytes.Equal(x.p.Bytes(), was) {
			x.t.Fatalf("Plan of %v changed the page", a)
		}
		x.same("planned")
	}
	if e := act.Do(x.p, a); e != want {
		x.t.Fatalf("Do of %v: %d, and should be %d", a, e, want)
	}
	if e := x.m.do(a); e != want {
		x.t.Fatalf("the test itself: %v is %d, not %d", a, e, want)
	}
	x.same("done")
	if want != api.OK && !bytes.Equal(x.p.Bytes(), was) {
		x.t.Fatalf("%v was refused, and changed the page", a)
	}
}

// do is want of whatever the model tells.
func (x *twin) do(a api.Act) api.Errno {
	x.t.Helper()
	m := *x.m
	e := m.do(a)
	x.want(a, e)
	return e
}

// wantRedo redoes a record, and asks what was told and what the page is then.
func (x *twin) wantRedo(r api.Record, done bool, want api.Errno) {
	x.t.Helper()
	was := x.p.Bytes()
	if d, e := act.Redo(x.p, r); d != done || e != want {
		x.t.Fatalf("Redo of %v: %v, %d, and should be %v, %d", r, d, e, done, want)
	}
	if d, e := x.m.redo(r); d != done || e != want {
		x.t.Fatalf("the test itself: %v is %v, %d, not %v, %d", r, d, e, done, want)
	}
	x.same("redone")
	if !done && !bytes.Equal(x.p.Bytes(), was) {
		x.t.Fatalf("%v was not redone, and changed the page", r)
	}
}

// redo is wantRedo of whatever the model tells.
func (x *twin) redo(r api.Record) (bool, api.Errno) {
	x.t.Helper()
	m := *x.m
	done, e := m.redo(r)
	x.wantRedo(r, done, e)
	return done, e
}

func ins(key, value string) api.Act {
	return api.Act{Kind: api.ActInsert, Key: key, New: value}
}

func upd(key, old, value string) api.Act {
	return api.Act{Kind: api.ActUpdate, Key: key, Old: old, New: value}
}

func del(key, old string) api.Act {
	return api.Act{Kind: api.ActDelete, Key: key, Old: old}
}

func text(n int) string { return strings.Repeat("t", n) }

func actKinds() []api.ActKind {
	l := []api.ActKind{math.MinInt, math.MinInt32, -1 << 32, 1<<8 + 1, 1<<8 + 2, 1<<8 + 3, 1<<16 + 1, 1<<32 + 1, 1<<32 + 2, 1<<32 + 3, math.MaxInt32, math.MaxInt}
	for k := api.ActKind(-4); k <= 8; k++ {
		l = append(l, k)
	}
	return l
}

func recKinds() []api.Kind {
	l := []api.Kind{math.MinInt, math.MinInt32, -1 << 32, 1<<8 + 1, 1<<8 + 2, 1<<16 + 1, 1<<16 + 2, 1<<32 + 1, 1<<32 + 2, math.MaxInt32, math.MaxInt}
	for k := api.Kind(-4); k <= 14; k++ {
		l = append(l, k)
	}
	return l
}

// wrongActs may not be, each for one reason (and the zero change).
func wrongActs() []api.Act {
	l := []api.Act{
		{},
		ins("", "x"), upd("", "x", "y"), del("", "x"), ins("", ""),
		ins(text(17), "x"), upd(text(17), "x", "y"), del(text(17), "x"), ins(text(1<<16), ""),
		ins("a", text(33)), upd("a", text(33), "y"), upd("a", "x", text(33)), del("a", text(33)), upd("a", text(33), text(33)),
		ins("a", text(1<<16)), del("a", text(1<<16)),
		{Kind: api.ActInsert, Key: "a", Old: "x", New: "y"}, {Kind: api.ActInsert, Key: "a", Old: "\x00"}, {Kind: api.ActInsert, Key: "a", Old: text(32)},
		{Kind: api.ActDelete, Key: "a", Old: "x", New: "y"}, {Kind: api.ActDelete, Key: "a", New: "\x00"}, {Kind: api.ActDelete, Key: "a", New: text(32)},
	}
	for _, k := range actKinds() {
		if k < 1 || k > 3 {
			l = append(l, api.Act{Kind: k, Key: "a", Old: "x", New: "y"}, api.Act{Kind: k, Key: "a", New: "y"}, api.Act{Kind: k, Key: "a", Old: "x"}, api.Act{Kind: k, Key: "a"})
		}
	}
	return l
}

// rightActs may be; some of them at the limits.
func rightActs() []api.Act {
	return []api.Act{
		ins("a", "x"), ins("a", ""), ins(text(16), text(32)), ins("\x00", "\x00"), ins("\xff\xfe", "\xff"), ins(strings.Repeat("é", 8), strings.Repeat("é", 16)),
		upd("a", "x", "y"), upd("a", "", ""), upd("a", "x", "x"), upd("a", "", "y"), upd("a", "x", ""), upd(text(16), text(32), text(32)),
		del("a", "x"), del("a", ""), del(text(16), text(32)), del("\x00", "\x00"),
	}
}

// chance has changes of few keys and values, such that they often meet what a page has.
type chance struct{ *rand.Rand }

func (c chance) key() string {
	keys := []string{"a", "b", "c", "aa", "ab", "k1", "k2", "k3", "k4", "k5", "k6", text(15), text(16), "x" + text(15), "y" + text(15), "\x00", "\xff"}
	return keys[c.Intn(len(keys))]
}

func (c chance) value() string {
	values := []string{"", "x", "\x00", text(20), text(31), text(32), "z" + text(31), "y" + text(31)}
	return values[c.Intn(len(values))]
}

// change often has as Old what the page has.
func (c chance) change(p *page.Page) api.Act {
	key := c.key()
	old, _ := p.Get(key)
	if c.Intn(6) == 0 {
		old = c.value()
	}
	switch c.Intn(16) {
	case 0:
		return wrongActs()[c.Intn(len(wrongActs()))]
	case 1, 2, 3, 4, 5, 6, 7, 8:
		return ins(key, c.value())
	case 9, 10, 11, 12, 13:
		return upd(key, old, c.value())
	}
	return del(key, old)
}
