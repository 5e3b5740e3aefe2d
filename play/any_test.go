package play_test

import (
	"fmt"
	"math/rand"
	"slices"
	"strings"
	"testing"

	"flotilla/api"
	"flotilla/play"
)

// P1: no call panics, and each ends, at any argument

func anyInt(r *rand.Rand) int {
	switch r.Intn(4) {
	case 0:
		return some(r, []int{-1 << 63, -1<<63 + 1, -1 << 32, -1, great, great + 1, 1<<32 + 1, 1<<63 - 1})
	case 1:
		return int(r.Uint64())
	}
	return r.Intn(20)
}

func anyText(r *rand.Rand) string {
	if r.Intn(20) == 0 {
		return strings.Repeat(drawnText(r), r.Intn(20000))
	}
	return drawnText(r)
}

func TestAnyArguments(t *testing.T) {
	ends(t, "any arguments", func() {
		for seed := range int64(3000) {
			r := rnd(seed)
			c := api.Config{Insts: anyInt(r), Pages: anyInt(r), Frames: anyInt(r), Log: anyInt(r), Fast: make([]bool, r.Intn(20))}
			l := make([]api.Step, r.Intn(4))
			if r.Intn(50) == 0 {
				l = make([]api.Step, 1000+r.Intn(50))
			}
			for n := range l {
				l[n] = api.Step{Kind: api.StepKind(anyInt(r)), Inst: anyInt(r), Sess: anyInt(r), From: anyInt(r), N: anyInt(r), Key: anyText(r), Value: anyText(r)}
			}
			holdsText(t, c, l)
			a := api.Answer{Step: anyInt(r), Kind: api.Reply(anyInt(r)), Value: anyText(r), Lsn: api.Lsn(r.Uint64())}
			for range r.Intn(3) {
				a.Pairs = append(a.Pairs, api.Pair{Key: anyText(r), Value: anyText(r)})
			}
			wantLine(t, a, lineAgain(a))
			s := anyText(r)
			holdsParse(t, s)
			play.Run(s, anyInt(r))
		}
		wantLine(t, api.Answer{}, "0 bad 0")
	})
}

// Steps with any numbers in a fleet that there is.
func TestAnyRuns(t *testing.T) {
	ends(t, "any runs", func() {
		for seed := range int64(400) {
			r := rnd(seed)
			c, _ := drawnLife(r, 0)
			l := drawnSteps(r, 60)
			for n := range l {
				if r.Intn(2) == 0 && l[n].Kind != api.StepCrash {
					l[n].Inst = 1 + r.Intn(c.Insts)
				}
			}
			rounds := anyInt(r)
			a, b, d := holdsRun(t, c, l, rounds)
			if !strings.Contains("\n"+a+b+d, "\nidle\n") && !strings.Contains("\n"+a+b+d, "\nbusy\n") {
				t.Fatal(a + b + d)
			}
		}
	})
}

// The greatest scripts: much that is laid, and then crashes, recoveries and scans till there is no room for another step.
func TestGreatRuns(t *testing.T) {
	laid := []string{}
	for n := range 8 {
		laid = append(laid, fmt.Sprintf("begin %d 0", n+1))
	}
	for n := range 56 {
		for k := range 4 {
			laid = append(laid, fmt.Sprintf("put %d 0 =%02x%02x =%s", 1+n%8, n, k, strings.Repeat("76", 8)), "pick 0", "pick 0")
		}
	}
	for name, more := range map[string][]string{
		"restarts":   {"crash 1 9", "restart 1 0"},
		"recoveries": {"crash 1 0", "recover 2 1 0", "restart 1 0"},
		"broken off": {"crash 1 0", "restart 1 2", "restart 1 3"},
		"scans":      {"scan 1 1 = =ff", "pick 0", "pick 0"},
		"checks":     {"check 1", "check 2", "pick 0", "clean 1 0"},
		"all":        {"crash 1 0", "crash 2 0", "crash 3 0", "crash 4 0", "restart 4 0", "recover 4 1 0", "recover 4 2 5", "restart 4 0", "restart 1 0", "restart 2 0", "restart 3 0"},
	} {
		ends(t, name, func() {
			lines := append([]string{"fleet 8 16 16 32768"}, laid...)
			for len(lines) < 1025 {
				lines = append(lines, more[len(lines)%len(more)])
			}
			s := strings.Join(lines[:1025], "\n") + "\n"
			if _, l, e := holdsParse(t, s); e != api.OK || len(l) != 1024 {
				t.Fatal(name, len(l), e)
			}
			out, n, e := play.Run(s, 1<<40)
			if n != 0 || e != api.OK || !slices.Contains(strings.Split(out, "\n"), "idle") {
				t.Fatal(name, len(out), n, e)
			}
		})
	}
}

func FuzzParse(f *testing.F) {
	f.Add("fleet 1 1 1 1024\nbegin 1 0\n")
	f.Add("fleet 2 3 4 640 10\nput 1 0 =61 =\nrecover 1 2 3\n")
	f.Fuzz(func(t *testing.T, s string) {
		if c, l, e := holdsParse(t, s); e == api.OK {
			wantText(t, c, l, s, api.OK)
		}
	})
}
