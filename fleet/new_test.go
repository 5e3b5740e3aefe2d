package fleet_test

import (
	"fmt"
	"testing"

	"flotilla/api"
	"flotilla/fleet"
)

// 21.1: New

// base is a fleet in the midst of all limits.
func base() api.Config {
	return api.Config{Insts: 3, Pages: 4, Frames: 2, Log: 1024}
}

func TestNewKnowsItsLimits(t *testing.T) {
	with := func(change func(c *api.Config)) api.Config {
		c := base()
		change(&c)
		return c
	}
	few, many := -1<<63, 1<<63-1
	each := func(what string, set func(c *api.Config, n int), good, bad []int) {
		for _, n := range good {
			if f, e := fleet.New(with(func(c *api.Config) { set(c, n) })); e != api.OK || f == nil {
				t.Errorf("%s %d: %v, %d", what, n, f, e)
			}
		}
		for _, n := range bad {
			if f, e := fleet.New(with(func(c *api.Config) { set(c, n) })); e != api.ErrArg || f != nil {
				t.Errorf("%s %d: %v, %d", what, n, f, e)
			}
		}
	}
	each("instances", func(c *api.Config, n int) { c.Insts = n }, []int{1, 2, 7, 8}, []int{few, -1, 0, 9, 10, 1<<32 + 1, many})
	each("pages", func(c *api.Config, n int) { c.Pages = n }, []int{1, 2, 15, 16}, []int{few, -1, 0, 17, 18, 1<<32 + 1, many})
	each("frames", func(c *api.Config, n int) { c.Frames = n }, []int{1, 2, 15, 16}, []int{few, -1, 0, 17, 18, 1<<32 + 1, many})
	each("log", func(c *api.Config, n int) { c.Log = n }, []int{64, 128, 1024, 32768 - 64, 32768},
		[]int{few, -64, -1, 0, 1, 63, 65, 127, 1000, 32767, 32769, 32768 + 64, 65536, 1<<32 + 64, many})
	each("entries of Fast", func(c *api.Config, n int) { c.Fast = make([]bool, n) }, []int{0, 1, 3, 4}, []int{5, 6, 16, 17, 1000})
}

func TestNewOfManyFaults(t *testing.T) {
	for _, c := range []api.Config{{}, {Insts: 1}, {Insts: 9, Pages: 17, Frames: 17, Log: 1, Fast: make([]bool, 99)}, {Pages: 1, Frames: 1, Log: 64}} {
		if f, e := fleet.New(c); e != api.ErrArg || f != nil {
			t.Errorf("New(%+v): %v, %d", c, f, e)
		}
	}
}

func TestANewFleet(t *testing.T) {
	for _, c := range []api.Config{
		{Insts: 1, Pages: 1, Frames: 1, Log: 64},
		{Insts: 8, Pages: 16, Frames: 16, Log: 32768, Fast: make([]bool, 16)},
		base(),
	} {
		f := made(t, c)
		for n := 1; n <= c.Insts; n++ {
			if !f.Up(n) || f.Lost(n) || len(f.Log(n)) != 0 {
				t.Error(n, "up, lost, log:", f.Up(n), f.Lost(n), f.Log(n))
			}
		}
		for id := range c.Pages {
			p := f.Disk(id)
			if p == nil || p.ID() != id || p.Lsn() != 0 || len(p.Cells()) != 0 || f.Owner(id) != 0 {
				t.Error("page", id, p, f.Owner(id))
			}
		}
		if !f.Idle() || len(f.Map()) != 0 {
			t.Error("idle, map:", f.Idle(), f.Map())
		}
		for _, rounds := range []int{-1, 0, 1, 1000} {
			if l, idle := f.Calm(rounds); len(l) != 0 || !idle {
				t.Error("Calm:", l, idle)
			}
		}
	}
}

// Do tells answers in the order in which they come, each once.
func TestDoTellsEachAnswerOnce(t *testing.T) {
	f := made(t, one(1, 1))
	var l []api.Answer
	for sess := range api.MaxSess {
		l = append(l, f.Do(begin(1, sess))...)
	}
	wantKinds(t, "Begin of four", l, api.ReplyOK, api.ReplyOK, api.ReplyOK, api.ReplyOK)
	for sess := range api.MaxSess {
		wantKinds(t, "Save", f.Do(save(1, sess)), api.ReplyOK)
	}
	l = does(t, f, put(1, 2, "a", "1"), put(1, 0, "a", "2"), put(1, 3, "a", "3"))
	wantKinds(t, "Put of three", l, api.ReplyOK)
	l = append(l, does(t, f, commit(1, 2), commit(1, 0), commit(1, 3))...)
	wantKinds(t, "all", l, api.ReplyOK, api.ReplyOK, api.ReplyOK, api.ReplyOK, api.ReplyOK, api.ReplyOK)
	for n, step := range []int{8, 11, 9, 12, 10, 13} {
		if l[n].Step != step {
			t.Fatal("answers", l)
		}
	}
	if l, _ := f.Calm(10); len(l) != 0 {
		t.Fatal("told twice:", l)
	}
}

// Steps are numbered by how many there were, of whatever kind, and Calm's rounds are none.
func TestNumbersOfSteps(t *testing.T) {
	f := made(t, one(2, 2))
	no := 0
	for k := api.StepKind(-1); k <= api.StepCount+1; k++ {
		if k == api.StepCrash || k == api.StepBegin {
			continue
		}
		for _, a := range f.Do(api.Step{Kind: k, Inst: 1}) {
			if a.Step != no {
				t.Fatal("the step", no, k, "has", a)
			}
		}
		no++
		f.Calm(3)
	}
	for sess := -1; sess <= api.MaxSess; sess++ {
		if l := f.Do(begin(2, sess)); len(l) != 1 || l[0].Step != no {
			t.Fatal("the step", no, "has", l)
		}
		no++
	}
}

// What is handed over fast isn't written thereby; all else is. Pages without an entry aren't fast.
func TestFast(t *testing.T) {
	for _, fast := range [][]bool{nil, {}, {true}, {false}, {true, false}, {false, true}, {false, true, true}, {true, true, true}, {false, false, false}} {
		c := api.Config{Insts: 2, Pages: 3, Frames: 3, Log: 4096, Fast: fast}
		f := made(t, c)
		okay(t, f, begin(1, 0))
		for id := range c.Pages {
			okay(t, f, put(1, 0, keyOn(id, 3), "x"))
		}
		okay(t, f, commit(1, 0), begin(2, 0))
		for id := range c.Pages {
			key := keyOn(id, 3)
			if a := wantTold(t, f, get(2, 0, key), api.ReplyValue); a.Value != "x" {
				t.Fatal(a)
			}
			_, written := f.Disk(id).Get(key)
			if is := id < len(fast) && fast[id]; written == is || f.Owner(id) != 2 {
				t.Errorf("Fast %v: page %d: written: %v, owner: %d", fast, id, written, f.Owner(id))
			}
		}
		okay(t, f, commit(2, 0))
	}
}

// What was handed in stays, and what is done to it behind New doesn't matter.
func TestFastStays(t *testing.T) {
	row := []bool{true, false, true, true, true}
	c := api.Config{Insts: 2, Pages: 3, Frames: 1, Log: 4096, Fast: row[:2]}
	f := made(t, c)
	row[0], row[1], row[2] = false, true, false
	okay(t, f, begin(1, 0), put(1, 0, keyOn(0, 3), "x"), commit(1, 0), begin(2, 0))
	wantTold(t, f, get(2, 0, keyOn(0, 3)), api.ReplyValue)
	if f.Disk(0).Lsn() != 0 {
		t.Error("the page 0 isn't fast any more")
	}
	okay(t, f, put(2, 0, keyOn(1, 3), "x"), commit(2, 0), begin(1, 0))
	wantTold(t, f, get(1, 0, keyOn(1, 3)), api.ReplyValue)
	if f.Disk(1).Lsn() == 0 {
		t.Error("the page 1 is fast")
	}
	if fmt.Sprint(row) != fmt.Sprint([]bool{false, true, false, true, true}) {
		t.Error("Fast was changed:", row)
	}
}
