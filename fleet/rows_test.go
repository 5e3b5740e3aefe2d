package fleet_test

import (
	"math/rand"
	"testing"

	"flotilla/api"
)

// 21.8 to 21.11: long drawn rows of steps

// taste is which steps a row has, and of what.
type taste struct {
	keys    []string
	values  []string
	crashes int // of a thousand steps
	calms   int
	bads    int
	ends    int // of a hundred steps of a transaction
	others  int // of ten steps those that no client takes
	deletes int // of ten changes
	seats   int // sessions of an instance
}

// keysOf is so many keys of one byte, or two.
func keysOf(n int) []string {
	var l []string
	for i := range n {
		k := string([]byte{'a' + byte(i%26)})
		if i >= 26 {
			k += string([]byte{'a' + byte(i/26)})
		}
		l = append(l, k)
	}
	return l
}

func valuesOf(sizes ...int) []string {
	var l []string
	for n, size := range sizes {
		b := make([]byte, size)
		for i := range b {
			b[i] = 'A' + byte(n)
		}
		l = append(l, string(b))
	}
	return l
}

func some[T any](r *rand.Rand, l []T) T { return l[r.Intn(len(l))] }

// drawn is a step of a client.
func (w *world) drawn(r *rand.Rand, x taste) api.Step {
	if r.Intn(1000) < x.bads {
		return w.bad(r, x)
	}
	inst, sess := 0, 0
	for range 4 { // one who waits isn't often asked for more
		inst, sess = 1+r.Intn(w.c.Insts), min(r.Intn(x.seats), r.Intn(x.seats))
		if !w.seats[inst][sess].waits {
			break
		}
	}
	if w.seats[inst][sess].deal == nil && r.Intn(40) > 0 {
		return begin(inst, sess)
	}
	if r.Intn(100) < x.ends {
		if r.Intn(3) == 0 {
			return abort(inst, sess)
		}
		return commit(inst, sess)
	}
	key := some(r, x.keys)
	switch r.Intn(20) {
	case 0, 1, 2, 3:
		return get(inst, sess, key)
	case 4:
		return scan(inst, sess, key, some(r, x.keys))
	case 5, 6:
		return save(inst, sess)
	case 7:
		return back(inst, sess, r.Intn(3))
	}
	if r.Intn(10) < x.deletes {
		return remove(inst, sess, key)
	}
	if r.Intn(3) == 0 {
		return insert(inst, sess, key, some(r, x.values))
	}
	return put(inst, sess, key, some(r, x.values))
}

// bad is a step that may not be, or hardly.
func (w *world) bad(r *rand.Rand, x taste) api.Step {
	s := api.Step{Kind: api.StepKind(r.Intn(int(api.StepCount)+2) - 1), Inst: r.Intn(w.c.Insts+2) - 0, Sess: r.Intn(6) - 1, N: r.Intn(8) - 2, From: r.Intn(4) - 1}
	s.Key, s.Value = some(r, append(x.keys[:len(x.keys):len(x.keys)], "", "12345678901234567")), some(r, append(x.values[:len(x.values):len(x.values)], "123456789012345678901234567890123"))
	if s.Kind == api.StepCrash { // these come as often as they are wanted
		s.Kind = api.StepPick
	}
	return s
}

// other is a step of something else.
func (w *world) other(r *rand.Rand) api.Step {
	inst := 1 + r.Intn(w.c.Insts)
	switch r.Intn(16) {
	case 0:
		return check(inst)
	case 1, 2:
		return clean(inst, r.Intn(w.c.Pages))
	case 3, 4, 5:
		return deliver(inst, 0)
	case 6, 7, 8:
		return deliver(0, inst)
	case 9, 10, 11:
		return pick(inst)
	}
	return pick(0)
}

// trouble is a crash, or what comes behind one.
func (w *world) trouble(r *rand.Rand) api.Step {
	inst := 1 + r.Intn(w.c.Insts)
	down := w.down()
	if len(down) == 0 || r.Intn(6) == 0 {
		if n := w.commits(); n > 0 && r.Intn(3) > 0 {
			inst = n
		}
		return crash(inst, r.Intn(6)-1)
	}
	from := 0
	if r.Intn(2) == 0 {
		from = 1 + r.Intn(6)
	}
	if other := some(r, down); w.f.Up(inst) && w.f.Lost(other) && r.Intn(2) == 0 {
		return recovery(inst, other, from)
	}
	return restart(some(r, down), from)
}

// commits is an instance of a client that waits for the answer to its commit; 0: there is none.
func (w *world) commits() int {
	for n := range w.seats {
		for _, x := range w.seats[n] {
			if x.waits && x.waiting.Kind == api.StepCommit {
				return n
			}
		}
	}
	return 0
}

// down is who is.
func (w *world) down() []int {
	var l []int
	for n := 1; n <= w.c.Insts; n++ {
		if !w.f.Up(n) {
			l = append(l, n)
		}
	}
	return l
}

// goOn does a row of steps.
func (w *world) goOn(r *rand.Rand, x taste, long int) {
	w.t.Helper()
	for range long {
		switch n := r.Intn(1000); {
		case n < x.crashes || n < 200 && len(w.down()) > 0:
			w.do(w.trouble(r))
		case n < x.crashes+x.calms:
			w.calmly()
		case r.Intn(10) < x.others:
			w.do(w.other(r))
		default:
			w.do(w.drawn(r, x))
		}
		if r.Intn(40) == 0 {
			w.logs()
		}
		if r.Intn(80) == 0 {
			w.midway()
		}
	}
}

// through does a row, brings it to its end, holds all against what it should be, and again behind a crash of all.
func (w *world) through(r *rand.Rand, x taste, long int) {
	w.t.Helper()
	w.goOn(r, x, long)
	w.end(r)
	w.logs()
	w.serial()
	for n := 1; n <= w.c.Insts; n++ {
		w.do(crash(n, r.Intn(3)))
	}
	w.mendAll(r)
	w.calmly()
	w.logs()
	w.serial()
}

// drawnConfig is any fleet of some size.
func drawnConfig(r *rand.Rand) api.Config {
	c := api.Config{Insts: 1 + r.Intn(4), Pages: 1 + r.Intn(5), Frames: 1 + r.Intn(3), Log: api.MaxLog}
	for range r.Intn(c.Pages + 1) {
		c.Fast = append(c.Fast, r.Intn(3) > 0)
	}
	return c
}

func drawnTaste(r *rand.Rand) taste {
	return taste{
		keys: keysOf(2 + r.Intn(12)), values: valuesOf(0, 1, 3, 9, 32), bads: 15,
		seats: api.MaxSess, ends: 5 + r.Intn(30), others: 2 + r.Intn(6), deletes: 1 + r.Intn(5),
		crashes: some(r, []int{0, 3, 10, 30}), calms: some(r, []int{5, 30, 100, 300}),
	}
}

// kind is a kind of rows: it draws what one is like.
type kind func(r *rand.Rand) (api.Config, taste, int)

// mixed is any row.
func mixed(r *rand.Rand) (api.Config, taste, int) {
	return drawnConfig(r), drawnTaste(r), 20 + r.Intn(400)
}

// full has pages that get full, and long transactions.
func full(r *rand.Rand) (api.Config, taste, int) {
	c, x := drawnConfig(r), drawnTaste(r)
	c.Insts, c.Pages = 1+r.Intn(2), 1+r.Intn(2)
	c.Fast = nil
	x.keys, x.values = keysOf(30*c.Pages), valuesOf(0, 1, 5, 20, 28, 32, 32, 32)
	x.ends, x.deletes, x.calms, x.others, x.seats = 1+r.Intn(8), 1+r.Intn(4), 300, 1, 1
	x.crashes = some(r, []int{0, 3})
	return c, x, 200 + r.Intn(300)
}

// tight has one page that is full nearly all the time.
func tight(r *rand.Rand) (api.Config, taste, int) {
	c, x, long := full(r)
	c.Insts, c.Pages = 1, 1
	x.keys, x.values = keysOf(40), valuesOf(0, 12, 20, 26, 28, 30, 31, 32)
	x.ends, x.deletes = 3, 2
	return c, x, long
}

// short has logs that get full.
func short(r *rand.Rand) (api.Config, taste, int) {
	c, x := drawnConfig(r), drawnTaste(r)
	c.Log = api.Sector * (1 + r.Intn(60))
	return c, x, 50 + r.Intn(300)
}

// torn has pages that are handed over fast, and crashes amid it.
func torn(r *rand.Rand) (api.Config, taste, int) {
	c, x := drawnConfig(r), drawnTaste(r)
	c.Insts, c.Pages = 2+r.Intn(3), 1+r.Intn(3)
	c.Fast = []bool{true, true, true}[:c.Pages]
	x.keys, x.ends, x.others, x.crashes, x.calms = keysOf(4), 30, 6, 40, 10
	return c, x, 100 + r.Intn(300)
}

// wide has all that a fleet can have.
func wide(r *rand.Rand) (api.Config, taste, int) {
	c, x := drawnConfig(r), drawnTaste(r)
	c.Insts, c.Pages, c.Frames = api.MaxInst, some(r, []int{5, api.MaxPages}), some(r, []int{1, 2, api.MaxPages})
	x.keys = keysOf(30)
	return c, x, 300 + r.Intn(500)
}

// rows has rows of a kind.
func rows(t *testing.T, k kind, first, last int64) {
	t.Helper()
	for seed := first; seed < last; seed++ {
		r := rand.New(rand.NewSource(seed))
		c, x, long := k(r)
		if !t.Run("", func(t *testing.T) { newWorld(t, c).through(r, x, long) }) {
			t.Fatalf("seed %d", seed)
		}
	}
}

func TestDrawnRows(t *testing.T) {
	ends(t, "drawn rows", func() {
		rows(t, mixed, 0, 200)
		rows(t, full, 0, 100)
		rows(t, short, 0, 100)
		rows(t, torn, 0, 200)
		rows(t, wide, 0, 20)
	})
}
