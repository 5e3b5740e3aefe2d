package act_test

import (
	"math/rand"
	"strings"
	"testing"

	"flotilla/act"
	"flotilla/api"
	"flotilla/page"
)

// 7.1

func TestExamples(t *testing.T) {
	if a := act.Turn(api.Act{Kind: api.ActUpdate, Key: "a", Old: "x", New: "y"}); a != (api.Act{Kind: api.ActUpdate, Key: "a", Old: "y", New: "x"}) {
		t.Error("Turn of the update:", a)
	}
	p, _ := page.New(0)
	if e := p.Insert("a", "x"); e != api.OK {
		t.Fatal(e)
	}
	if e := act.Do(p, api.Act{Kind: api.ActDelete, Key: "a", Old: "y"}); e != api.ErrState {
		t.Error("a delete with another Old:", e)
	}
	if v, ok := p.Get("a"); v != "x" || !ok {
		t.Error("it isn't there any more:", v, ok)
	}
}

func TestMay(t *testing.T) {
	for _, a := range rightActs() {
		if !act.May(a) {
			t.Errorf("%v may be", a)
		}
	}
	for _, a := range wrongActs() {
		if act.May(a) {
			t.Errorf("%v may not be", a)
		}
	}
	if act.May(ins(strings.Repeat("é", 9), "")) || act.May(ins("a", strings.Repeat("é", 17))) {
		t.Error("bytes count, not runes")
	}
}

func TestMayOfAllKindsAndLengths(t *testing.T) {
	may := 0
	for _, kind := range actKinds() {
		for _, key := range []int{0, 1, 2, 15, 16, 17, 18, 32, 33, 256, 257, 1 << 16, 1<<16 + 1} {
			for _, old := range []int{0, 1, 2, 16, 17, 31, 32, 33, 34, 64, 256, 1 << 16} {
				for _, value := range []int{0, 1, 2, 16, 17, 31, 32, 33, 34, 64, 256, 1 << 16} {
					a := api.Act{Kind: kind, Key: text(key), Old: text(old), New: text(value)}
					if act.May(a) != mayBe(a) {
						t.Fatalf("kind %d, lengths %d, %d, %d: %v", kind, key, old, value, act.May(a))
					}
					if act.May(a) {
						may++
					}
				}
			}
		}
	}
	if may != 4*(7+49+7) { // keys of four lengths; values of seven, of an update twice
		t.Error("of all these", may, "may be")
	}
}

func TestDoOfNilPage(t *testing.T) {
	for _, a := range append(rightActs(), wrongActs()...) {
		if e := act.Do(nil, a); e != api.ErrArg {
			t.Errorf("Do(nil, %v): %d", a, e)
		}
		if e := act.Plan(nil, a); e != api.ErrArg {
			t.Errorf("Plan(nil, %v): %d", a, e)
		}
	}
}

// TestDoOfWrongActs has pages on which the same change would be told other errors as well, or could be done.
func TestDoOfWrongActs(t *testing.T) {
	for _, a := range wrongActs() {
		on(t).want(a, api.ErrArg)
		on(t, api.Pair{Key: "a", Value: "x"}).want(a, api.ErrArg)
		on(t, api.Pair{Key: "a"}).want(a, api.ErrArg)
		full(t, 0).want(a, api.ErrArg)
	}
}

// TestEachChange has what each change does to a page, and nothing else of it.
func TestEachChange(t *testing.T) {
	x := on(t, api.Pair{Key: "a", Value: "x"}, api.Pair{Key: "aa", Value: "x"}, api.Pair{Key: "b", Value: ""})
	steps := []struct {
		a    api.Act
		want string // the slots
	}{
		{ins("c", "w"), "a=x aa=x b= c=w"},
		{upd("a", "x", "y"), "a=y aa=x b= c=w"},
		{upd("b", "", "v"), "a=y aa=x b=v c=w"},
		{upd("b", "v", "v"), "a=y aa=x b=v c=w"},
		{upd("b", "v", ""), "a=y aa=x b= c=w"},
		{upd("b", "", ""), "a=y aa=x b= c=w"},
		{del("aa", "x"), "a=y - b= c=w"},
		{del("b", ""), "a=y - - c=w"},
		{ins("d", ""), "a=y d= - c=w"},
		{del("c", "w"), "a=y d="},
		{del("a", "y"), "- d="},
		{del("d", ""), ""},
		{ins("a", "x"), "a=x"},
	}
	for _, s := range steps {
		x.want(s.a, api.OK)
		var l []string
		for _, c := range x.p.Cells() {
			if c.Used {
				l = append(l, c.Key+"="+c.Value)
			} else {
				l = append(l, "-")
			}
		}
		if got := strings.Join(l, " "); got != s.want {
			t.Fatalf("%v: %s, and should be %s", s.a, got, s.want)
		}
		if x.p.Lsn() != 77 {
			t.Fatalf("%v: the page's LSN is %d", s.a, x.p.Lsn())
		}
	}
}

func TestEachError(t *testing.T) {
	pairs := []api.Pair{{Key: "a", Value: "x"}, {Key: "b", Value: ""}, {Key: "c", Value: text(32)}}
	for _, c := range []struct {
		a    api.Act
		want api.Errno
	}{
		{ins("a", "x"), api.ErrTwice},
		{ins("a", "y"), api.ErrTwice},
		{ins("b", ""), api.ErrTwice},
		{upd("d", "", "x"), api.ErrNone},
		{upd("d", "x", "y"), api.ErrNone},
		{upd("A", "x", "y"), api.ErrNone},
		{upd("aa", "x", "y"), api.ErrNone},
		{upd("a", "y", "x"), api.ErrState},
		{upd("a", "", "x"), api.ErrState},
		{upd("a", "X", "x"), api.ErrState},
		{upd("a", "xx", "x"), api.ErrState},
		{upd("a", "x\x00", "x"), api.ErrState},
		{upd("b", "x", "y"), api.ErrState},
		{upd("b", "\x00", "y"), api.ErrState},
		{upd("c", text(31), "y"), api.ErrState},
		{upd("c", text(31)+"u", "y"), api.ErrState},
		{upd("c", "u"+text(31), "y"), api.ErrState},
		{del("d", ""), api.ErrNone},
		{del("d", "x"), api.ErrNone},
		{del("a", ""), api.ErrState},
		{del("a", "y"), api.ErrState},
		{del("a", "xx"), api.ErrState},
		{del("b", "x"), api.ErrState},
		{del("c", text(31)), api.ErrState},
	} {
		on(t, pairs...).want(c.a, c.want)
	}
	on(t).want(del("a", ""), api.ErrNone) // a page without slots
	on(t).want(upd("a", "", ""), api.ErrNone)
}

// full is a page with so many free bytes, on which a has x.
func full(t *testing.T, free int) *twin {
	t.Helper()
	x := on(t, api.Pair{Key: "a", Value: "x"})
	for i := range 12 {
		x.want(ins("l"+string(rune('a'+i)), text(32)), api.OK) // 39 bytes each
	}
	if x.p.Free() != 21 { // 496 - 7 - 12*39
		t.Fatal("free:", x.p.Free())
	}
	if free > 15 {
		x.want(del("ll", text(32)), api.OK)
	}
	rest := x.p.Free() - free - 5 // bytes of a last key and its value
	value := min(rest-1, 32)
	x.want(ins("rrrrrrrrrrrrrrrr"[:rest-value], text(value)), api.OK)
	if x.p.Free() != free {
		t.Fatal("free:", x.p.Free(), "and should be", free)
	}
	return x
}

// TestRoomForInsert: a new slot's four bytes count, a free slot's don't.
func TestRoomForInsert(t *testing.T) {
	for _, free := range []int{6, 7, 13, 30, 38, 41, 52} {
		just := min(free-4-2, 32)
		full(t, free).want(ins("n", text(just)), api.OK)
		if just < 32 {
			full(t, free).want(ins("n", text(just+1)), api.ErrFull)
			full(t, free).want(ins("nn", text(just)), api.ErrFull)
		}
	}
	for free := range 6 {
		full(t, free).want(ins("n", ""), api.ErrFull)
	}
	for free := range 12 { // a's slot is free, with three bytes more
		x := full(t, free)
		x.want(del("a", "x"), api.OK)
		x.want(ins("n", text(free+2)), api.ErrFull)
		x.want(ins("nn", text(free+1)), api.ErrFull)
		x.want(ins("n", text(free+1)), api.OK)
		if x.p.Free() != 0 {
			t.Error("free:", x.p.Free())
		}
	}
}

func TestRoomForUpdate(t *testing.T) {
	for free := range 14 {
		x := full(t, free)
		x.want(upd("a", "x", text(free+2)), api.ErrFull)
		x.want(upd("a", "x", text(free+1)), api.OK)
		if x.p.Free() != 0 {
			t.Error("free:", x.p.Free())
		}
		x.want(upd("a", text(free+1), text(free+2)), api.ErrFull)
		x.want(upd("a", text(free+1), text(free+1)), api.OK)
		x.want(upd("a", text(free+1), ""), api.OK)
		x.want(upd("a", "", text(free+2)), api.ErrFull)
		x.want(upd("a", "", "x"), api.OK)
		x.want(del("a", "x"), api.OK) // a delete needs no room
	}
}

func TestRoomForSlots(t *testing.T) {
	x := begin(t, 5)
	for i := range 64 {
		x.want(ins(string(rune('0'+i)), ""), api.OK)
	}
	x.want(ins("aa", ""), api.ErrFull) // there are free bytes, but no slot
	if x.p.Free() != 112 {
		t.Error("free:", x.p.Free())
	}
	x.want(ins("0", ""), api.ErrTwice)
	x.want(upd("0", "", text(32)), api.OK)
	x.want(del("5", ""), api.OK)
	x.want(ins("aa", ""), api.OK)
	x.want(ins("ab", ""), api.ErrFull)
}

// TestErrorsInTheirOrder has changes to which more than one error applies.
func TestErrorsInTheirOrder(t *testing.T) {
	x := full(t, 0)
	long := text(33)
	for _, c := range []struct {
		a    api.Act
		want api.Errno
	}{
		{ins("a", text(32)), api.ErrTwice}, // and full
		{ins("n", text(32)), api.ErrFull},
		{upd("n", "x", text(32)), api.ErrNone},  // and another value, and full
		{upd("a", "y", text(32)), api.ErrState}, // and full
		{upd("a", "", text(32)), api.ErrState},
		{upd("a", "x", text(32)), api.ErrFull},
		{del("n", "x"), api.ErrNone}, // and another value
		{del("a", "y"), api.ErrState},
		{ins("a", long), api.ErrArg}, // and there already, and full
		{ins("n", long), api.ErrArg},
		{upd("n", "x", long), api.ErrArg},
		{upd("a", "y", long), api.ErrArg},
		{upd("a", "x", long), api.ErrArg},
		{upd("a", long, "x"), api.ErrArg},
		{del("a", long), api.ErrArg},
		{del("n", long), api.ErrArg},
		{api.Act{Kind: api.ActInsert, Key: "a", Old: "x", New: "x"}, api.ErrArg},
		{api.Act{Kind: api.ActDelete, Key: "a", Old: "y", New: "x"}, api.ErrArg},
		{api.Act{Kind: api.ActDelete, Key: "n", Old: "x", New: "x"}, api.ErrArg},
	} {
		x.want(c.a, c.want)
	}
}

// TestPlanAlone has a page on which nothing is ever done.
func TestPlanAlone(t *testing.T) {
	x := full(t, 9)
	for _, a := range append(rightActs(), wrongActs()...) {
		m := *x.m
		if e, want := act.Plan(x.p, a), m.do(a); e != want {
			t.Errorf("Plan of %v: %d, and should be %d", a, e, want)
		}
		x.same("planned")
	}
}

func TestDoOfParsedPagesAndClones(t *testing.T) {
	x := full(t, 9)
	q, e := page.Parse(5, x.p.Bytes())
	if e != api.OK {
		t.Fatal(e)
	}
	c := q.Clone()
	y := &twin{t, q, &model{x.m.id, x.m.lsn, x.m.slots}}
	z := &twin{t, c, &model{x.m.id, x.m.lsn, x.m.slots}}
	y.want(del("a", "x"), api.OK)
	z.want(upd("a", "x", "y"), api.OK)
	x.same("a page whose bytes were parsed")
	y.same("a page that was cloned")
}

func TestManyChanges(t *testing.T) {
	c := chance{rand.New(rand.NewSource(71))}
	told := map[api.Errno]int{}
	for id := range 16 {
		for range 20 {
			x := begin(t, id)
			x.stamp(api.Lsn(c.Uint64()))
			for range 150 {
				told[x.do(c.change(x.p))]++
			}
		}
	}
	for _, e := range []api.Errno{api.OK, api.ErrArg, api.ErrFull, api.ErrNone, api.ErrTwice, api.ErrState} {
		if told[e] < 100 {
			t.Error("error", e, "was told", told[e], "times")
		}
	}
}
