package fleet_test

import (
	"math/rand"
	"strings"
	"testing"

	"flotilla/api"
	"flotilla/fleet"
)

// P1: no call panics, and each ends, at any argument

// anyInt is a number of some sort.
func anyInt(r *rand.Rand) int {
	switch r.Intn(8) {
	case 0:
		return some(r, []int{-1 << 63, -1<<63 + 1, -1 << 32, -1, 1 << 31, 1<<32 + 1, 1 << 62, 1<<63 - 1})
	case 1:
		return r.Intn(300) - 100
	}
	return r.Intn(5)
}

func anyText(r *rand.Rand) string {
	switch r.Intn(6) {
	case 0:
		return some(r, []string{"", "\x00", "\xff", strings.Repeat("\xff", 16), strings.Repeat("\xff", 17), strings.Repeat("v", 32), strings.Repeat("v", 33), strings.Repeat("x", 70000)})
	}
	return string([]byte{'a' + byte(r.Intn(6))})
}

func anyStep(r *rand.Rand) api.Step {
	k := api.StepKind(r.Intn(int(api.StepCount)))
	if r.Intn(30) == 0 {
		k = api.StepKind(anyInt(r))
	}
	if r.Intn(3) > 0 && k == api.StepCrash {
		k = api.StepRestart
	}
	s := api.Step{Kind: k, Inst: r.Intn(4), Sess: r.Intn(5), From: anyInt(r), N: anyInt(r), Key: anyText(r), Value: anyText(r)}
	if r.Intn(10) == 0 {
		s.Inst, s.Sess = anyInt(r), anyInt(r)
	}
	return s
}

func TestAnySteps(t *testing.T) {
	ends(t, "any steps", func() {
		for seed := range int64(150) {
			r := rand.New(rand.NewSource(seed))
			c := api.Config{Insts: 1 + r.Intn(3), Pages: 1 + r.Intn(3), Frames: 1 + r.Intn(2), Log: 64 * (1 + r.Intn(20)), Fast: make([]bool, r.Intn(2))}
			f := made(t, c)
			answers, asked := 0, 0
			for range 300 {
				s := anyStep(r)
				if isClients(s.Kind) {
					asked++
				}
				answers += len(f.Do(s))
				if r.Intn(4) == 0 {
					l, _ := f.Calm(anyInt(r))
					answers += len(l)
				}
				n := anyInt(r)
				f.Up(n)
				f.Lost(n)
				f.Log(n)
				f.Disk(n)
				f.Owner(n)
			}
			for n := 1; n <= c.Insts; n++ {
				answers += len(f.Do(crash(n, 0))) // all who wait are told so
			}
			if answers != asked {
				t.Fatal(seed, answers, "answers to", asked, "steps")
			}
			for n := 1; n <= c.Insts; n++ {
				f.Do(restart(n, 0))
			}
			if _, idle := f.Calm(1000); !idle {
				t.Fatal(seed, "not idle behind restarts")
			}
		}
	})
}

func TestAnyConfigs(t *testing.T) {
	ends(t, "any configs", func() {
		r := rand.New(rand.NewSource(1))
		for range 3000 {
			c := api.Config{Insts: anyInt(r), Pages: anyInt(r), Frames: anyInt(r), Log: 64 * anyInt(r)}
			if r.Intn(2) == 0 {
				c.Fast = make([]bool, r.Intn(20))
			}
			f, e := fleet.New(c)
			if is := c.Insts >= 1 && c.Insts <= 8 && c.Pages >= 1 && c.Pages <= 16 && c.Frames >= 1 && c.Frames <= 16 && c.Log >= 64 && c.Log <= 32768 && len(c.Fast) <= c.Pages; is != (e == api.OK) || is != (f != nil) || !is && e != api.ErrArg {
				t.Fatalf("New(%+v): %v, %d", c, f, e)
			}
		}
	})
}
