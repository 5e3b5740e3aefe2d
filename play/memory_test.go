package play_test

import (
	"slices"
	"testing"

	"flotilla/api"
	"flotilla/play"
)

// What is handed in stays as it was; what was told may be written over.

func TestTextLeavesWhatItIsGiven(t *testing.T) {
	for seed := range int64(500) {
		r := rnd(seed)
		c, l := drawnConfig(r), drawnSteps(r, 10)
		if r.Intn(3) == 0 {
			l = append(l, api.Step{Kind: api.StepPick, N: 1})
		}
		c.Fast, l = slices.Grow(c.Fast, 4), slices.Grow(l, 4)
		kept, steps := c, slices.Clone(l)
		kept.Fast = slices.Clone(c.Fast)
		room, behind := slices.Clone(c.Fast[:cap(c.Fast)]), slices.Clone(l[:cap(l)])
		want, err := textAgain(kept, steps)
		for range 2 {
			wantText(t, c, l, want, err)
		}
		if !sameConfig(c, kept) || !slices.Equal(l, steps) || !slices.Equal(c.Fast[:cap(c.Fast)], room) || !slices.Equal(l[:cap(l)], behind) {
			t.Fatalf("Text changed what it was given: %+v, %v", c, l)
		}
	}
}

// A text that was told stays, when what it is of is written over.
func TestTextKeepsNothing(t *testing.T) {
	c, l := plain(), []api.Step{{Kind: api.StepGet, Inst: 1, Key: "a"}, {Kind: api.StepPick}}
	c.Fast = []bool{true, false}
	s, _ := play.Text(c, l)
	c.Fast[0], l[0] = false, api.Step{}
	if s != "fleet 2 3 4 640 10\nget 1 0 =61\npick 0\n" {
		t.Fatal(s)
	}
}

func TestParseTellsNewMemory(t *testing.T) {
	s := "fleet 2 3 4 640 101\nget 1 0 =61\nput 1 0 =61 =62\npick 0\n"
	c, l, _, _ := play.Parse(s)
	d, m, _, _ := play.Parse(s)
	for n := range c.Fast {
		c.Fast[n] = !c.Fast[n]
	}
	for n := range l {
		l[n] = api.Step{Kind: 99, Key: "spoilt"}
	}
	_, _ = append(c.Fast, true), append(l, api.Step{})
	want, _, _, _ := parseAgain(s)
	if !sameConfig(d, want) || m[0].Key != "a" || m[1].Value != "b" || m[2].Kind != api.StepPick {
		t.Fatal(d, m)
	}
	holdsParse(t, s)
	wantRun(t, s, 0, holdsScript(t, s, 0), 0, api.OK)
}

func TestLineLeavesWhatItIsGiven(t *testing.T) {
	pairs := []api.Pair{{Key: "a", Value: "x"}, {Key: "b", Value: ""}}
	a := api.Answer{Step: 1, Kind: api.ReplyPairs, Value: "v", Pairs: pairs[:1], Lsn: 16}
	line := play.Line(a)
	if line != "1 pairs 16 =61 =78" || pairs[0] != (api.Pair{Key: "a", Value: "x"}) || pairs[1] != (api.Pair{Key: "b"}) || a.Step != 1 || a.Value != "v" || len(a.Pairs) != 1 {
		t.Fatal(line, pairs, a)
	}
	pairs[0] = api.Pair{}
	if line != "1 pairs 16 =61 =78" {
		t.Fatal(line)
	}
}

// Runs have nothing of one another.
func TestRunsAreApart(t *testing.T) {
	first := lived("fleet 2 2 2 4096", "begin 1 0", "put 1 0 =61 =78", "~", "commit 1 0")
	second := "fleet 2 2 2 4096\nbegin 1 0\nget 1 0 =61\n"
	want := holdsScript(t, second, 50)
	for range 3 {
		if got := holdsScript(t, first, 50); bare(got) != "ok, ok, ok, idle, map =61 =78" {
			t.Fatal(got)
		}
		wantRun(t, second, 50, want, 0, api.OK)
	}
	if bare(want) != "ok, none, idle" {
		t.Fatal(want)
	}
}
