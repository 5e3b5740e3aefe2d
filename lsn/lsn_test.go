package lsn_test

import (
	"math"
	"math/big"
	"slices"
	"testing"

	"flotilla/api"
	"flotilla/lsn"
)

// most is the greatest count, written out: a test that took it from api alone could not see it changed.
const most = 72057594037927936

// counts has valid ones with the edges, and some that lie amid.
func counts() []uint64 {
	return []uint64{1, 2, 3, 4, 7, 8, 15, 16, 17, 255, 256, 1 << 28, 1<<32 - 1, 1 << 32, 1<<32 + 1, 1 << 52, 1<<55 + 12345, most - 2, most - 1, most}
}

// wrongCounts has those that no LSN has.
func wrongCounts() []uint64 {
	return []uint64{0, most + 1, most + 2, most + 16, 1<<57 - 1, 1 << 57, 1<<60 - 1, 1 << 60, 1<<60 + 1, 1<<60 + 5, 1 << 63, math.MaxUint64 - 1, math.MaxUint64}
}

// wrongInsts has those that no instance is.
func wrongInsts() []int {
	return []int{math.MinInt, math.MinInt32, -16, -8, -2, -1, 8, 9, 15, 16, 17, 24, 1 << 32, math.MaxInt32, math.MaxInt - 15, math.MaxInt}
}

// wrongOnes has numbers that are no LSNs: by their count, by their instance, by both.
func wrongOnes() []api.Lsn {
	var l []api.Lsn
	for inst := range uint64(16) {
		for _, n := range []uint64{0, most + 1, most + 2, 1 << 57, 1<<60 - 1} {
			l = append(l, api.Lsn(n*16+inst))
		}
		if inst >= 8 {
			for _, n := range counts() {
				l = append(l, api.Lsn(n*16+inst))
			}
		}
	}
	return l
}

// made is the LSN of a count and an instance that are right.
func made(t *testing.T, count uint64, inst int) api.Lsn {
	t.Helper()
	l, e := lsn.Make(count, inst)
	if e != api.OK {
		t.Fatalf("Make(%d, %d): %d", count, inst, e)
	}
	return l
}

func clockOf(t *testing.T, inst int) *lsn.Clock {
	t.Helper()
	c, e := lsn.New(inst)
	if c == nil || e != api.OK {
		t.Fatalf("New(%d): %v, %d", inst, c, e)
	}
	return c
}

func wantNow(t *testing.T, what string, c *lsn.Clock, want uint64) {
	t.Helper()
	for range 2 { // asking changes nothing
		if got := c.Now(); got != want {
			t.Fatalf("%s: Now %d, want %d", what, got, want)
		}
	}
}

func wantTick(t *testing.T, what string, c *lsn.Clock, want api.Lsn) {
	t.Helper()
	if got, e := c.Tick(); got != want || e != api.OK {
		t.Fatalf("%s: Tick %d, %d; want %d", what, got, e, want)
	}
}

func wantOver(t *testing.T, what string, c *lsn.Clock) {
	t.Helper()
	for range 5 {
		if got, e := c.Tick(); got != 0 || e != api.ErrOver {
			t.Fatalf("%s: Tick %d, %d; want ErrOver", what, got, e)
		}
		wantNow(t, what, c, most)
	}
}

// chance is a row of numbers that look like chance and are the same in each run.
type chance uint64

func (c *chance) next() uint64 {
	*c = *c*6364136223846793005 + 1442695040888963407
	return uint64(*c>>33) ^ uint64(*c<<31)
}

func (c *chance) below(n int) int { return int(c.next() >> 16 % uint64(n)) }

// 3.1

func TestExamples(t *testing.T) {
	if l := made(t, 3, 2); l != 50 {
		t.Errorf("Make(3, 2): %d, want 50", l)
	}
	c := clockOf(t, 1)
	c.See(50)
	wantTick(t, "a clock of 1 that saw 50", c, 65)
}

func TestMakeIsSixteenTimesTheCountAndTheInstance(t *testing.T) {
	for _, n := range counts() {
		for inst := range 8 {
			want := new(big.Int).SetUint64(n)
			want.Mul(want, big.NewInt(16)).Add(want, big.NewInt(int64(inst)))
			l := made(t, n, inst)
			if new(big.Int).SetUint64(uint64(l)).Cmp(want) != 0 {
				t.Errorf("Make(%d, %d): %d, want %s", n, inst, l, want)
			}
			if !lsn.Valid(l) || lsn.Count(l) != n || lsn.Inst(l) != inst {
				t.Errorf("Make(%d, %d): %d: valid %t, count %d, instance %d", n, inst, l, lsn.Valid(l), lsn.Count(l), lsn.Inst(l))
			}
		}
	}
}

func TestMakeAtTheLimits(t *testing.T) {
	cases := []struct {
		count uint64
		inst  int
		want  api.Lsn
	}{
		{1, 0, 16}, {1, 7, 23}, {2, 0, 32}, {most, 0, 1 << 60}, {most, 7, 1<<60 + 7},
	}
	for _, c := range cases {
		if l := made(t, c.count, c.inst); l != c.want {
			t.Errorf("Make(%d, %d): %d, want %d", c.count, c.inst, l, c.want)
		}
	}
}

func wantRefused(t *testing.T, count uint64, inst int, want api.Errno) {
	t.Helper()
	if l, e := lsn.Make(count, inst); l != 0 || e != want {
		t.Errorf("Make(%d, %d): %d, %d; want 0, %d", count, inst, l, e, want)
	}
}

func TestMakeOfWrongInstances(t *testing.T) {
	for _, inst := range wrongInsts() {
		for _, n := range append(counts(), wrongCounts()...) {
			wantRefused(t, n, inst, api.ErrArg)
		}
	}
}

func TestMakeOfWrongCounts(t *testing.T) {
	for inst := range 8 {
		for _, n := range wrongCounts() {
			wantRefused(t, n, inst, api.ErrOver)
		}
	}
}

func TestValid(t *testing.T) {
	for _, n := range counts() {
		for inst := range 8 {
			if l := api.Lsn(n*16 + uint64(inst)); !lsn.Valid(l) {
				t.Errorf("%d is not valid: count %d, instance %d", l, n, inst)
			}
		}
	}
	for _, l := range wrongOnes() {
		if lsn.Valid(l) {
			t.Errorf("%d is valid: count %d, instance %d", l, l/16, l%16)
		}
	}
}

func TestValidAtTheLimits(t *testing.T) {
	cases := []struct {
		l    api.Lsn
		want bool
	}{
		{0, false}, {7, false}, {8, false}, {15, false}, {16, true}, {23, true}, {24, false}, {31, false}, {32, true}, {39, true}, {40, false},
		{1<<60 - 16, true}, {1<<60 - 9, true}, {1<<60 - 8, false}, {1<<60 - 1, false},
		{1 << 60, true}, {1<<60 + 7, true}, {1<<60 + 8, false}, {1<<60 + 15, false}, {1<<60 + 16, false},
		{1 << 61, false}, {1<<63 + 16, false}, {math.MaxUint64 - 15, false}, {math.MaxUint64, false},
	}
	for _, c := range cases {
		if got := lsn.Valid(c.l); got != c.want {
			t.Errorf("Valid(%d): %t", c.l, got)
		}
	}
}

func TestValidIsWhatMakeMakes(t *testing.T) {
	for l := range api.Lsn(4096) {
		back, e := lsn.Make(lsn.Count(l), lsn.Inst(l))
		if lsn.Valid(l) != (e == api.OK) || e == api.OK && back != l {
			t.Fatalf("%d: valid %t; made again %d, %d", l, lsn.Valid(l), back, e)
		}
	}
}

func TestCountAndInstOfAnyNumber(t *testing.T) {
	cases := []struct {
		l     api.Lsn
		count uint64
		inst  int
	}{
		{0, 0, 0}, {1, 0, 1}, {15, 0, 15}, {16, 1, 0}, {31, 1, 15}, {50, 3, 2},
		{1 << 60, most, 0}, {1<<60 + 15, most, 15}, {1<<60 + 16, most + 1, 0},
		{1 << 63, 1 << 59, 0}, {math.MaxUint64 - 15, 1<<60 - 1, 0}, {math.MaxUint64, 1<<60 - 1, 15},
	}
	for _, c := range cases {
		if lsn.Count(c.l) != c.count || lsn.Inst(c.l) != c.inst {
			t.Errorf("%d: count %d, instance %d; want %d, %d", c.l, lsn.Count(c.l), lsn.Inst(c.l), c.count, c.inst)
		}
	}
	var some chance
	for range 2000 {
		l := api.Lsn(some.next())
		n, inst := lsn.Count(l), lsn.Inst(l)
		if inst < 0 || inst > 15 || n > math.MaxUint64/16 || n*16+uint64(inst) != uint64(l) {
			t.Fatalf("%d: count %d, instance %d", l, n, inst)
		}
	}
}

func TestMax(t *testing.T) {
	cases := []struct {
		l    []api.Lsn
		want api.Lsn
	}{
		{nil, 0}, {[]api.Lsn{}, 0}, {[]api.Lsn{0}, 0}, {[]api.Lsn{0, 0}, 0},
		{[]api.Lsn{1}, 1}, {[]api.Lsn{50}, 50}, {[]api.Lsn{math.MaxUint64}, math.MaxUint64},
		{[]api.Lsn{50, 50}, 50}, {[]api.Lsn{50, 50, 50}, 50},
		{[]api.Lsn{9, 1, 2}, 9}, {[]api.Lsn{1, 9, 2}, 9}, {[]api.Lsn{1, 2, 9}, 9},
		{[]api.Lsn{9, 9, 2}, 9}, {[]api.Lsn{2, 9, 9}, 9}, {[]api.Lsn{9, 2, 9}, 9},
		{[]api.Lsn{0, 16}, 16}, {[]api.Lsn{16, 0}, 16},
		{[]api.Lsn{1<<63 - 1, 1 << 63}, 1 << 63}, {[]api.Lsn{1 << 63, 1<<63 - 1}, 1 << 63},
		{[]api.Lsn{1 << 32, 1}, 1 << 32}, {[]api.Lsn{8, 65}, 65},
		{[]api.Lsn{math.MaxUint64, 16, 1 << 60}, math.MaxUint64},
	}
	for _, c := range cases {
		if got := lsn.Max(c.l...); got != c.want {
			t.Errorf("Max(%v): %d, want %d", c.l, got, c.want)
		}
	}
	if lsn.Max() != 0 || lsn.Max(5) != 5 || lsn.Max(16, 50, 33) != 50 {
		t.Error("Max of numbers one by one:", lsn.Max(), lsn.Max(5), lsn.Max(16, 50, 33))
	}
}

func TestMaxWhereverTheGreatestStands(t *testing.T) {
	for size := 1; size <= 40; size++ {
		for at := range size {
			l := make([]api.Lsn, size)
			for i := range l {
				l[i] = api.Lsn(1000 + i*7%size)
			}
			l[at] = 5000
			if got := lsn.Max(l...); got != 5000 {
				t.Fatalf("Max(%v): %d", l, got)
			}
		}
	}
}

func TestMaxLeavesWhatIsHandedIn(t *testing.T) {
	all := []api.Lsn{7, 3, 9, 3, 1, 100, 200}
	was := slices.Clone(all)
	if got := lsn.Max(all[:5]...); got != 9 {
		t.Error("Max of five of seven:", got)
	}
	if !slices.Equal(all, was) {
		t.Error("Max changed", was, "to", all)
	}
	clear(all)
	if got := lsn.Max(4); got != 4 {
		t.Error("Max hangs on an earlier call:", got)
	}
}

// 3.2

func TestNew(t *testing.T) {
	for inst := range 8 {
		c := clockOf(t, inst)
		wantNow(t, "a new clock", c, 0)
		wantTick(t, "a new clock", c, api.Lsn(16+inst))
		wantNow(t, "behind one tick", c, 1)
	}
	for _, inst := range wrongInsts() {
		if c, e := lsn.New(inst); c != nil || e != api.ErrArg {
			t.Errorf("New(%d): %v, %d; want nil, ErrArg", inst, c, e)
		}
	}
}

func TestTickIsOneMore(t *testing.T) {
	for inst := range 8 {
		c := clockOf(t, inst)
		for n := uint64(1); n <= 300; n++ {
			wantTick(t, "a row of ticks", c, api.Lsn(n*16+uint64(inst)))
			wantNow(t, "a row of ticks", c, n)
		}
	}
}

func TestSee(t *testing.T) {
	for inst := range 8 {
		for from := range 8 {
			c := clockOf(t, inst)
			c.See(made(t, 10, from))
			wantNow(t, "a greater count", c, 10)
			c.See(made(t, 10, from))
			wantNow(t, "the same once more", c, 10)
			c.See(made(t, 10, 7-from))
			wantNow(t, "the same count of another instance", c, 10)
			c.See(made(t, 9, from))
			wantNow(t, "one less", c, 10)
			c.See(made(t, 1, from))
			wantNow(t, "the least", c, 10)
			c.See(made(t, 11, from))
			wantNow(t, "one more", c, 11)
			wantTick(t, "behind them all", c, api.Lsn(12*16+inst))
			c.See(made(t, 11, from))
			wantNow(t, "less than what was told", c, 12)
			c.See(made(t, most-1, from))
			wantTick(t, "the last one", c, api.Lsn(most*16+inst))
			wantNow(t, "the last one", c, most)
		}
	}
}

func TestSeeOfItsOwn(t *testing.T) {
	c := clockOf(t, 5)
	for n := uint64(1); n < 50; n++ {
		l, _ := c.Tick()
		c.See(l)
		wantNow(t, "saw what it told", c, n)
	}
}

func TestSeeOfWrongOnes(t *testing.T) {
	for _, at := range []uint64{0, 1, 2, 1000, most - 1, most} {
		for _, l := range wrongOnes() {
			c := clockOf(t, 3)
			if at > 0 {
				c.See(made(t, at, 3))
			}
			c.See(l)
			wantNow(t, "saw one that is not valid", c, at)
			if at < most {
				wantTick(t, "saw one that is not valid", c, api.Lsn((at+1)*16+3))
			} else {
				wantOver(t, "saw one that is not valid", c)
			}
		}
	}
}

func TestTickAtTheEnd(t *testing.T) {
	for inst := range 8 {
		for from := range 8 {
			c := clockOf(t, inst)
			c.See(made(t, most-2, from))
			wantTick(t, "the last but one", c, api.Lsn((most-1)*16+inst))
			wantTick(t, "the last one", c, api.Lsn(most*16+inst))
			wantOver(t, "ticked to the end", c)
			c.See(made(t, 1, from))
			wantOver(t, "saw the least at the end", c)
			c.See(made(t, most, from))
			wantOver(t, "saw the last at the end", c)

			c = clockOf(t, inst)
			c.See(made(t, most, from))
			wantOver(t, "saw the last one", c)
		}
	}
}

func TestNilClock(t *testing.T) {
	var c *lsn.Clock
	for range 3 {
		for _, l := range append(wrongOnes(), 16, 50, 1<<60, 1<<60+7) {
			c.See(l)
		}
		if l, e := c.Tick(); l != 0 || e != api.ErrArg {
			t.Errorf("Tick: %d, %d; want 0, ErrArg", l, e)
		}
		if n := c.Now(); n != 0 {
			t.Errorf("Now: %d, want 0", n)
		}
	}
}

func TestClocksAreApart(t *testing.T) {
	a, b, other := clockOf(t, 2), clockOf(t, 2), clockOf(t, 4)
	a.See(made(t, 100, 4))
	wantTick(t, "the one that saw", a, 101*16+2)
	wantNow(t, "another one of its instance", b, 0)
	wantNow(t, "one of another instance", other, 0)
	wantTick(t, "another one of its instance", b, 16+2)
	wantTick(t, "one of another instance", other, 16+4)
	wantNow(t, "the one that saw", a, 101)
}

// 3.3

// story is a clock beside all that it was shown and all that it told, whatever it keeps itself.
type story struct {
	clock *lsn.Clock
	inst  int
	shown []api.Lsn
	told  []api.Lsn
}

// count is the document's: the greatest of the valid ones that were shown, and of those that were told; of none 0.
func (s *story) count() uint64 {
	n := uint64(0)
	for _, l := range slices.Concat(s.shown, s.told) {
		if l/16 >= 1 && l/16 <= most && l%16 <= 7 {
			n = max(n, uint64(l/16))
		}
	}
	return n
}

func (s *story) see(t *testing.T, l api.Lsn) {
	t.Helper()
	s.shown = append(s.shown, l)
	s.clock.See(l)
	wantNow(t, "saw", s.clock, s.count())
}

func (s *story) tick(t *testing.T) api.Lsn {
	t.Helper()
	n := s.count()
	if n == most {
		wantOver(t, "at the end", s.clock)
		return 0
	}
	l := api.Lsn((n+1)*16 + uint64(s.inst))
	wantTick(t, "amid", s.clock, l)
	for _, x := range slices.Concat(s.shown, s.told) {
		if lsn.Valid(x) && x >= l {
			t.Fatalf("told %d, which is not above %d", l, x)
		}
	}
	s.told = append(s.told, l)
	wantNow(t, "told", s.clock, n+1)
	return l
}

// some is a number to show: near what the clock has, valid or not, seldom any number at all.
func (s *story) some(c *chance) api.Lsn {
	if c.below(8) == 0 {
		return api.Lsn(c.next() >> c.below(64))
	}
	near := int64(s.count()) + int64(c.below(9)) - 5
	return api.Lsn(uint64(max(near, 0))*16 + uint64(c.below(16)))
}

func TestRunsOfSeeAndTick(t *testing.T) {
	for run := range 200 {
		c := chance(run)
		s := story{clock: clockOf(t, run%8), inst: run % 8}
		if run%3 == 0 {
			s.see(t, made(t, most-uint64(c.below(40)), run/8%8))
		}
		for range 80 {
			if c.below(2) == 0 {
				s.see(t, s.some(&c))
			} else {
				s.tick(t)
			}
		}
	}
}

func TestClocksThatTellOneAnother(t *testing.T) {
	for run := range 56 {
		c := chance(run)
		one, two := run/7, (run/7+1+run%7)%8
		fleet := []*story{{clock: clockOf(t, one), inst: one}, {clock: clockOf(t, two), inst: two}}
		told := map[api.Lsn]int{}
		for range 150 {
			at := c.below(2)
			l := fleet[at].tick(t)
			if lsn.Inst(l) != fleet[at].inst || !lsn.Valid(l) {
				t.Fatalf("the clock of %d told %d", fleet[at].inst, l)
			}
			if told[l]++; told[l] > 1 {
				t.Fatalf("%d was told twice", l)
			}
			if c.below(3) > 0 {
				fleet[1-at].see(t, l)
			}
		}
	}
}

func TestNumbersRiseThroughAFleetThatTellsAll(t *testing.T) {
	var c chance
	var fleet []*lsn.Clock
	for inst := range 8 {
		fleet = append(fleet, clockOf(t, inst))
	}
	last := api.Lsn(0)
	for n := uint64(1); n <= 1000; n++ {
		at := c.below(8)
		l, e := fleet[at].Tick()
		if e != api.OK || l <= last || l != api.Lsn(n*16+uint64(at)) {
			t.Fatalf("tick %d, of %d: %d, %d behind %d", n, at, l, e, last)
		}
		for _, x := range fleet {
			x.See(l)
		}
		last = l
	}
}

func TestClocksThatTellOneAnotherNothing(t *testing.T) {
	told := map[api.Lsn]int{}
	for inst := range 8 {
		c := clockOf(t, inst)
		for range 100 {
			l, _ := c.Tick()
			told[l]++
		}
	}
	if len(told) != 800 {
		t.Errorf("eight clocks told %d different ones in 800 ticks", len(told))
	}
}

func TestOrderIsByCountThenByInstance(t *testing.T) {
	for _, n := range counts() {
		for _, m := range counts() {
			for i := range 8 {
				for j := range 8 {
					a, b := made(t, n, i), made(t, m, j)
					if less := n < m || n == m && i < j; (a < b) != less || (a == b) != (n == m && i == j) {
						t.Fatalf("%d (%d of %d) and %d (%d of %d) stand wrong", a, n, i, b, m, j)
					}
				}
			}
		}
	}
}

func TestLimitsAreTheDocuments(t *testing.T) {
	if api.MaxCount != most || api.MaxInst != 8 {
		t.Error("MaxCount, MaxInst:", uint64(api.MaxCount), api.MaxInst)
	}
}
