package fleet_test

import (
	"fmt"
	"slices"
	"strings"
	"testing"

	"flotilla/api"
	"flotilla/fleet"
)

// 21.5: other steps

// Nothing comes but by steps; a message comes by its own row alone, one at a time.
func TestMessagesComeOneByOne(t *testing.T) {
	f := made(t, one(2, 1))
	f.Do(begin(1, 0))
	for range 20 {
		for _, s := range []api.Step{deliver(2, 0), deliver(0, 2), pick(2), pick(1), deliver(1, 2), deliver(0, 0), deliver(1, 1), deliver(3, 0), deliver(-1, 0), deliver(0, 9), deliver(0, -1)} {
			if l := f.Do(s); len(l) > 0 {
				t.Fatal(s, l)
			}
		}
	}
	f.Do(put(1, 0, "a", "x"))
	stuck(t, f, deliver(0, 1), deliver(2, 0), deliver(0, 2), pick(1), pick(2), deliver(1, 2), deliver(1, 1))
	wantKinds(t, "Put", reach(t, f, deliver(1, 0), deliver(0, 1)), api.ReplyOK)
	f.Do(commit(1, 0))
	stuck(t, f, deliver(1, 0), deliver(0, 1), pick(2))
	wantKinds(t, "Commit", reach(t, f, pick(1), deliver(1, 0), deliver(0, 1)), api.ReplyOK)
	f.Do(begin(2, 0))
	f.Do(get(2, 0, "a"))
	stuck(t, f, deliver(1, 0), deliver(0, 1), deliver(0, 2), pick(1), pick(2))
	stuck(t, f, deliver(2, 0), deliver(0, 2), pick(2)) // the page is another one's
	wantKinds(t, "Get", reach(t, f, deliver(1, 0), deliver(0, 1), deliver(2, 0), deliver(0, 2), pick(1), pick(2)), api.ReplyValue)
}

// stuck does steps again and again; nobody may be told anything, and the fleet isn't idle.
func stuck(t *testing.T, f *fleet.Fleet, steps ...api.Step) {
	t.Helper()
	for range 20 {
		for _, s := range steps {
			if l := f.Do(s); len(l) > 0 {
				t.Fatal(s, l)
			}
		}
	}
	if f.Idle() {
		t.Fatal("idle behind", steps)
	}
}

// reach does steps again and again, till the fleet is idle: the answers.
func reach(t *testing.T, f *fleet.Fleet, steps ...api.Step) []api.Answer {
	t.Helper()
	var l []api.Answer
	for range 100 {
		for _, s := range steps {
			l = append(l, f.Do(s)...)
		}
	}
	if !f.Idle() {
		t.Fatal("not idle behind", steps, l)
	}
	return l
}

// A round (StepPick of Inst 0) does of each row and each log so much as a step of its own would.
func TestPickOfAll(t *testing.T) {
	f := made(t, one(3, 2))
	for n := 1; n <= 3; n++ {
		f.Do(begin(n, 0))
		f.Do(put(n, 0, keyOn(n%2, 2), "x"))
	}
	wantKinds(t, "two", reach(t, f, pick(0)), api.ReplyOK, api.ReplyOK)
	for n := 1; n <= 3; n++ {
		f.Do(commit(n, 0))
	}
	calm(t, f)
	if len(f.Map()) != 2 {
		t.Fatal(f.Map())
	}
}

// logOf is what stands on a log, but for the LSNs.
func logOf(f *fleet.Fleet, inst int) string {
	s := ""
	for _, r := range f.Log(inst) {
		s += fmt.Sprintf("%d %d %v;", r.Kind, r.Page, r.Act)
	}
	return s
}

// Whatever is written of what a log was writing, what was there stays there, and a commit is there or it isn't.
func TestACrashAmidAWrite(t *testing.T) {
	var none, all [6][]int // by how many writes were over behind how many sectors nothing of it was there, or all
	for picks := range 6 {
		for sectors := -1; sectors < 12; sectors++ {
			f := made(t, one(2, 1))
			okay(t, f, begin(1, 0), put(1, 0, "a", "x"), commit(1, 0), clean(1, 0), begin(1, 0))
			for n := range 5 {
				okay(t, f, put(1, 0, string([]byte{'b' + byte(n)}), strings.Repeat("v", 32)))
			}
			f.Do(commit(1, 0))
			over := false
			for range picks {
				for _, s := range []api.Step{pick(1), deliver(1, 0), deliver(0, 1)} {
					over = over || len(f.Do(s)) > 0
				}
			}
			before := logOf(f, 1)
			if l := f.Do(crash(1, sectors)); (len(l) == 0) != over || !over && l[0].Kind != api.ReplyDown {
				t.Fatal(picks, sectors, l)
			}
			after := logOf(f, 1)
			if !strings.HasPrefix(after, before) || sectors <= 0 && after != before {
				t.Fatalf("%d writes and %d sectors: the log had %s and has %s", picks, sectors, before, after)
			}
			okay(t, f, restart(1, 0))
			switch {
			case len(f.Map()) == 1 && !over:
				none[picks] = append(none[picks], sectors)
			case len(f.Map()) == 6:
				all[picks] = append(all[picks], sectors)
			default:
				t.Fatal(picks, sectors, over, f.Map())
			}
			if torn := logOf(f, 1); !strings.HasPrefix(torn, after) {
				t.Fatal("the log had", after, "and has", torn)
			}
			okay(t, f, begin(1, 0), put(1, 0, "z", "y"), commit(1, 0), crash(1, 0), restart(1, 0))
		}
	}
	if len(all[0]) > 0 || len(none[5]) > 0 || !same(none[1], []int{-1, 0}) {
		t.Fatal("it was there behind", all, "and wasn't behind", none)
	}
}

// crashed has much to recover: pages that the disk lacks, pages with what didn't commit, two transactions that go on.
func crashed(t *testing.T) (*fleet.Fleet, map[string]string) {
	t.Helper()
	f := made(t, api.Config{Insts: 3, Pages: 6, Frames: 4, Log: api.MaxLog, Fast: []bool{true, true, true}})
	want := map[string]string{}
	okay(t, f, begin(3, 0))
	for id := range 6 {
		want[keyOn(id, 6)] = "x"
		okay(t, f, put(3, 0, keyOn(id, 6), "x"))
	}
	okay(t, f, commit(3, 0), begin(2, 0), begin(2, 1), begin(2, 2))
	for id := range 6 {
		okay(t, f, put(2, id%3, keyOn(id, 6), "y"))
	}
	okay(t, f, commit(2, 1), clean(2, 2), clean(2, 3))
	want[keyOn(1, 6)], want[keyOn(4, 6)] = "y", "y"
	f.Do(crash(2, 0))
	return f, want
}

// ways is how an instance that crashed is recovered: by which step, who is up and lost then, and who is, if that is broken off.
func ways() []func(from int) api.Step {
	return []func(from int) api.Step{
		func(from int) api.Step { return restart(2, from) },
		func(from int) api.Step { return recovery(1, 2, from) },
		func(from int) api.Step { return recovery(3, 2, from) },
	}
}

func TestRecoverAtOnce(t *testing.T) {
	for _, way := range ways() {
		for _, from := range []int{0, -1, 1000, 1<<63 - 1, -1 << 63} {
			f, want := crashed(t)
			s := way(from)
			f.Do(s)
			if f.Lost(2) || f.Up(2) != (s.Kind == api.StepRestart) || !f.Up(1) || !f.Up(3) {
				t.Fatal(s, "up", f.Up(1), f.Up(2), f.Up(3), "lost", f.Lost(2))
			}
			calm(t, f)
			wantPairs(t, f, want)
			f.Do(s) // it isn't lost any more
			if f.Lost(2) || !f.Up(1) || !f.Up(3) {
				t.Fatal(s, "once more: up", f.Up(1), f.Up(3), "lost", f.Lost(2))
			}
			okay(t, f, restart(2, 1), begin(2, 0), begin(1, 0))
			for id := range 6 {
				okay(t, f, put(2, 0, keyOn(id, 6), "z"))
			}
			okay(t, f, commit(2, 0))
		}
	}
}

// written is how much of the disk and of a log is otherwise than it was.
func written(f *fleet.Fleet, disk []string, log string) int {
	n := 0
	for id := range disk {
		if string(f.Disk(id).Bytes()) != disk[id] {
			n++
		}
	}
	if logOf(f, 2) != log {
		n++
	}
	return n
}

func laid(f *fleet.Fleet, pages int) []string {
	var l []string
	for id := range pages {
		l = append(l, string(f.Disk(id).Bytes()))
	}
	return l
}

// A recovery that is broken off has done no more than it may, and leaves all such that the next one comes to the same.
func TestRecoverIsBrokenOff(t *testing.T) {
	for _, way := range ways() {
		for from := 1; ; from++ {
			f, want := crashed(t)
			disk, log := laid(f, 6), logOf(f, 2)
			s := way(from)
			f.Do(s)
			if n := written(f, disk, log); f.Lost(2) && n != max(0, from-2) { // the log takes two: what is behind, and the mark
				t.Fatal(s, "has written", n)
			}
			if !f.Lost(2) {
				wantPairs(t, f, want)
				if from < 4 {
					t.Fatal("a recovery needs only", from-1, "writes")
				}
				break
			}
			if f.Up(2) || f.Up(s.Inst) || f.Lost(s.Inst) != true {
				t.Fatal(s, "broken off: up", f.Up(1), f.Up(2), f.Up(3), "lost", f.Lost(1), f.Lost(2), f.Lost(3))
			}
			if from > 50 {
				t.Fatal("a recovery has no end")
			}
			for n := 1; n <= 3; n++ {
				f.Do(restart(n, 0))
			}
			calm(t, f)
			wantPairs(t, f, want)
		}
	}
}

// Broken off again and again, by one and the other, each time a bit later: what the disk and the log have stays, and at last all is there.
func TestRecoverIsBrokenOffAgainAndAgain(t *testing.T) {
	for each := 1; each < 4; each++ {
		f, want := crashed(t)
		for n := 0; f.Lost(2); n++ {
			disk, log := laid(f, 6), logOf(f, 2)
			s := ways()[n%3](1 + n/each)
			f.Do(s)
			if k := written(f, disk, log); k > n/each {
				t.Fatal(s, "has written", k)
			}
			if !strings.HasPrefix(logOf(f, 2), log) {
				t.Fatal("the log had", log, "and has", logOf(f, 2))
			}
			if s.Kind == api.StepRecover && f.Lost(2) {
				if f.Up(s.Inst) {
					t.Fatal(s, "didn't crash")
				}
				f.Do(restart(s.Inst, 0))
			}
			if n > 200 {
				t.Fatal("no end")
			}
		}
		for n := 1; n <= 3; n++ {
			f.Do(restart(n, 0))
		}
		calm(t, f)
		wantPairs(t, f, want)
	}
}

// What needs no write isn't broken off.
func TestARecoveryThatNeedsNothing(t *testing.T) {
	f := made(t, one(2, 2))
	okay(t, f, begin(2, 0))
	told(t, f, get(2, 0, "a"))
	f.Do(crash(2, 0))
	f.Do(recovery(1, 2, 1))
	if f.Lost(2) || !f.Up(1) {
		t.Fatal("lost", f.Lost(2), "up", f.Up(1))
	}
	f.Do(restart(2, 1))
	f.Do(crash(2, 0))
	f.Do(restart(2, 1))
	if f.Lost(2) || !f.Up(2) {
		t.Fatal("lost", f.Lost(2), "up", f.Up(2))
	}
	okay(t, f, begin(2, 0), put(2, 0, "a", "x"), abort(2, 0), begin(2, 0), put(2, 0, "b", "x"), commit(2, 0), clean(2, 0), clean(2, 1))
	f.Do(crash(2, 0))
	f.Do(restart(2, 1))
	if f.Lost(2) || !f.Up(2) {
		t.Fatal("lost", f.Lost(2), "up", f.Up(2))
	}
	wantPairs(t, f, map[string]string{"b": "x"})
}

// What others lack doesn't matter: neither one that is lost too, nor one that is up, nor one that is down and recovered.
func TestARecoveryOfOneAlone(t *testing.T) {
	a, b, c := keyOn(0, 3), keyOn(1, 3), keyOn(2, 3)
	lacking := func() *fleet.Fleet {
		f := made(t, api.Config{Insts: 3, Pages: 3, Frames: 1, Log: 4096, Fast: []bool{false, true, true}})
		okay(t, f, begin(3, 0), put(3, 0, a, "x"), put(3, 0, c, "x"), commit(3, 0), begin(1, 0), put(1, 0, c, "y"), commit(1, 0)) // the page of c went fast
		okay(t, f, begin(2, 0), put(2, 0, a, "z"), begin(2, 1), put(2, 1, b, "x"), commit(2, 1), begin(3, 0))
		f.Do(crash(2, 0))
		if v, _ := f.Disk(0).Get(a); v != "z" || f.Disk(1).Lsn() > 0 || f.Disk(2).Lsn() > 0 {
			t.Fatal("the disk has", laid(f, 3))
		}
		f.Do(restart(2, 3)) // its log is mended, and no page
		return f
	}
	for n, way := range [][]api.Step{{restart(3, 1)}, {recovery(1, 3, 1), restart(3, 1)}} {
		f := lacking()
		f.Do(crash(3, 0))
		disk, log := laid(f, 3), logOf(f, 2)
		for _, s := range way {
			f.Do(s)
		}
		if !f.Up(1) || !f.Up(3) || f.Lost(3) || f.Up(2) || !f.Lost(2) {
			t.Fatal(n, "up", f.Up(1), f.Up(2), f.Up(3), "lost", f.Lost(2), f.Lost(3))
		}
		if written(f, disk, log) > 0 {
			t.Fatal(n, "something was written")
		}
		f.Do(recovery(3, 2, 0))
		calm(t, f)
		wantPairs(t, f, map[string]string{a: "x", b: "x", c: "y"})
	}
}

// A transaction has a number that none has on that log which came ahead of it.
func TestNumbersOfTransactionsOnALog(t *testing.T) {
	f := made(t, one(2, 1))
	come := map[int]bool{}
	for n := range 12 {
		inst := 1 + n%2
		before := len(f.Log(inst))
		okay(t, f, begin(inst, 0), put(inst, 0, "a", "x"), commit(inst, 0))
		own := 0
		for _, r := range f.Log(inst)[before:] {
			if r.Kind == api.RecCommit {
				own = r.Txn
			}
		}
		if own == 0 || come[own] {
			t.Fatal("a number twice:", own)
		}
		come[own] = true
		if n%3 == 2 {
			okay(t, f, crash(1, 0), crash(2, 0), restart(1, 0), recovery(1, 2, 0), restart(2, 0))
		}
	}
}

// Who crashes isn't told anything any more, whatever others get that its transactions waited for or stood ahead of.
func TestNoMessagesForOneThatCrashed(t *testing.T) {
	f := made(t, one(2, 1))
	okay(t, f, begin(2, 0), begin(1, 0), begin(1, 1), begin(2, 1))
	told(t, f, get(2, 0, "a"))
	does(t, f, put(1, 0, "a", "x"), get(1, 1, "a"))
	wantKinds(t, "the crash", f.Do(crash(1, 0)), api.ReplyDown, api.ReplyDown)
	if !f.Idle() {
		t.Fatal("a message is under way")
	}
	f.Do(restart(1, 0))
	okay(t, f, commit(2, 0), begin(1, 0), begin(1, 1), put(1, 1, "a", "x"))
	wantKinds(t, "who waits", does(t, f, get(1, 0, "a")))
}

// Sessions have no transactions behind a restart, and what they had locked is free.
func TestSessionsBehindARestart(t *testing.T) {
	f := made(t, one(2, 1))
	for sess := range api.MaxSess {
		okay(t, f, begin(2, sess))
	}
	okay(t, f, put(2, 0, "a", "x"), begin(1, 0))
	does(t, f, put(1, 0, "a", "y"))
	f.Do(crash(2, 0))
	if l := calm(t, f); len(l) > 0 {
		t.Fatal("what was locked is free ahead of the recovery:", l)
	}
	f.Do(restart(2, 0))
	wantKinds(t, "who waited", calm(t, f), api.ReplyOK)
	for sess := range api.MaxSess {
		wantAtOnce(t, f, commit(2, sess), api.ReplyBad)
		wantAtOnce(t, f, begin(2, sess), api.ReplyOK)
	}
}

// checks is the checkpoints that stand on a log.
func checks(f *fleet.Fleet, inst int) []api.Record {
	return slices.DeleteFunc(f.Log(inst), func(r api.Record) bool { return r.Kind != api.RecCheck })
}

func TestCheckpoints(t *testing.T) {
	f := made(t, one(2, 3))
	okay(t, f, check(1))
	l := checks(f, 1)
	if len(l) != 1 || len(l[0].Txns) != 0 || len(l[0].Dirty) != 0 || len(f.Log(2)) != 0 {
		t.Fatal("a first checkpoint:", l)
	}
	okay(t, f, begin(1, 0), begin(1, 1), begin(1, 2), put(1, 0, keyOn(0, 3), "x"), put(1, 1, keyOn(1, 3), "x"), clean(1, 0), check(1))
	l = checks(f, 1)
	if len(l) != 2 || len(l[1].Txns) != 2 || len(l[1].Dirty) != 1 || l[1].Dirty[0].Page != 1 {
		t.Fatal("a checkpoint:", l)
	}
	okay(t, f, commit(1, 0), abort(1, 1), clean(1, 0), clean(1, 1), check(1))
	l = checks(f, 1)
	if len(l) != 3 || len(l[2].Txns) != 0 || len(l[2].Dirty) != 0 {
		t.Fatal("a last checkpoint:", l)
	}
	okay(t, f, crash(1, 0), check(1), restart(1, 0))
	if len(checks(f, 1)) != 3 {
		t.Fatal("a checkpoint of one that was down:", checks(f, 1))
	}
	wantPairs(t, f, map[string]string{keyOn(0, 3): "x"})
}

// A checkpoint goes into the log if it has room, and takes none that others need.
func TestCheckpointsWithoutRoom(t *testing.T) {
	for sectors := 1; sectors < 12; sectors++ {
		f := made(t, api.Config{Insts: 1, Pages: 1, Frames: 1, Log: 64 * sectors})
		okay(t, f, begin(1, 0))
		told(t, f, put(1, 0, "a", "x")) // as far as there is room
		for n := range 40 {
			before := logOf(f, 1)
			okay(t, f, check(1))
			if logOf(f, 1) == before && n < sectors/2-3 {
				t.Fatal(sectors, "sectors have room for", n, "checkpoints")
			}
		}
		full := logOf(f, 1)
		okay(t, f, check(1))
		if logOf(f, 1) != full {
			t.Fatal("the log had no room, and has", logOf(f, 1))
		}
		opens := slices.DeleteFunc(f.Log(1), func(r api.Record) bool { return r.Kind != api.RecOpen })
		if len(opens) != len(checks(f, 1)) {
			t.Fatal(len(opens), "checkpoints begin, and there are", len(checks(f, 1)))
		}
		okay(t, f, abort(1, 0), crash(1, 0), restart(1, 0))
		wantMap(t, f)
	}
}

func TestClean(t *testing.T) {
	for _, fast := range []bool{false, true} {
		f := made(t, api.Config{Insts: 2, Pages: 2, Frames: 2, Log: 4096, Fast: []bool{fast, fast}})
		okay(t, f, begin(1, 0), put(1, 0, keyOn(0, 2), "x"), put(1, 0, keyOn(1, 2), "x"))
		okay(t, f, clean(2, 0), clean(1, 2), clean(1, -1), clean(1, 1<<40), clean(0, 0), clean(3, 0), clean(-1, 0))
		if f.Disk(0).Lsn() != 0 || f.Disk(1).Lsn() != 0 {
			t.Fatal("written by one that hasn't it")
		}
		f.Do(clean(1, 0))
		if f.Disk(0).Lsn() != 0 {
			t.Fatal("written ahead of the log")
		}
		for range 2 { // the log's own writes are enough
			f.Do(pick(1))
		}
		if v, is := f.Disk(0).Get(keyOn(0, 2)); !is || v != "x" || f.Disk(1).Lsn() != 0 || f.Owner(0) != 1 {
			t.Fatal("not written:", f.Disk(0), f.Disk(1), f.Owner(0))
		}
		okay(t, f, commit(1, 0))
		before := f.Disk(0).Bytes()
		okay(t, f, clean(1, 0))
		if string(f.Disk(0).Bytes()) != string(before) {
			t.Fatal("what was clean is written otherwise")
		}
		f.Do(clean(1, 1)) // the log is ahead of it: at once
		if v, _ := f.Disk(1).Get(keyOn(1, 2)); v != "x" {
			t.Fatal("not written:", f.Disk(1))
		}
		okay(t, f, crash(1, 0), clean(1, 0))
	}
}

// A page that goes meanwhile, and one that its instance loses.
func TestCleanOfAPageThatGoes(t *testing.T) {
	f := made(t, api.Config{Insts: 2, Pages: 1, Frames: 1, Log: 4096, Fast: []bool{true}})
	okay(t, f, begin(1, 0), put(1, 0, "a", "x"), commit(1, 0), begin(2, 0))
	f.Do(get(2, 0, "a"))
	f.Do(clean(1, 0))
	calm(t, f)
	okay(t, f, commit(2, 0), begin(1, 0), put(1, 0, "a", "y"))
	f.Do(clean(1, 0))
	f.Do(crash(1, 0))
	okay(t, f, restart(1, 0))
	wantMap(t, f, api.Pair{Key: "a", Value: "x"})
}

// Steps that may not be are passed over.
func TestStepsThatMayNotBe(t *testing.T) {
	c := one(3, 2)
	f := made(t, c)
	okay(t, f, begin(1, 0), put(1, 0, "a", "x"), commit(1, 0), begin(1, 0), put(1, 0, "b", "y"), begin(2, 0))
	f.Do(put(2, 0, "c", "z"))
	f.Do(crash(3, 0))
	f.Do(recovery(1, 3, 0)) // down, but not lost
	f.Do(crash(2, 0))       // lost
	calm(t, f)
	var l []api.Step
	for _, inst := range []int{-1, 0, 4, 9, 1 << 40, -1 << 63} {
		l = append(l, check(inst), crash(inst, 1), restart(inst, 0), recovery(inst, 2, 0), recovery(1, inst, 0), recovery(1, inst, 1), clean(inst, 0), deliver(inst, 0), deliver(0, inst))
		if inst != 0 {
			l = append(l, pick(inst))
		}
	}
	l = append(l, restart(1, 0), restart(1, 1), recovery(1, 1, 0), recovery(1, 3, 0), recovery(1, 3, 1), recovery(2, 2, 0), recovery(3, 2, 0), recovery(2, 3, 0), recovery(3, 2, 1))
	for _, down := range []int{2, 3} {
		l = append(l, crash(down, 0), crash(down, 9), check(down), pick(down), clean(down, 0), deliver(down, 0), deliver(0, down))
	}
	l = append(l, clean(1, 2), clean(1, -1), deliver(1, 2), deliver(1, 1), deliver(1, 0), deliver(0, 1), pick(1), pick(0))
	for _, k := range []api.StepKind{api.StepNone, -1, api.StepCount, api.StepCount + 1, 1 << 40, -1 << 63} {
		l = append(l, api.Step{Kind: k}, api.Step{Kind: k, Inst: 1, N: 1}, api.Step{Kind: k, Inst: 2, From: 1})
	}
	before := everything(f, c)
	for _, s := range l {
		if a := f.Do(s); len(a) > 0 || everything(f, c) != before {
			t.Fatalf("%+v: %v, and %s, which was %s", s, a, everything(f, c), before)
		}
	}
	okay(t, f, commit(1, 0))
}
