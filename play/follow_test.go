package play_test

import (
	"math/rand"
	"slices"
	"strings"
	"testing"

	"flotilla/api"
	"flotilla/play"
)

// 22.5: what follows

func TestTextIsParsed(t *testing.T) {
	ends(t, "there and back", func() {
		for seed := range int64(3000) {
			r := rnd(seed)
			c, l := drawnConfig(r), drawnSteps(r, some(r, []int{0, 1, 5, 40}))
			s, e := play.Text(c, l)
			if e != api.OK {
				t.Fatal(seed, e)
			}
			wantParse(t, s, c, l, 0, api.OK)
			gc, gl, _, _ := play.Parse(s)
			wantText(t, gc, gl, s, api.OK)
		}
	})
}

// With as many steps, and as many bytes, as a script can have.
func TestGreatTextIsParsed(t *testing.T) {
	for _, n := range []int{1022, 1023, 1024} {
		r := rnd(int64(n))
		c, l := drawnConfig(r), make([]api.Step, n)
		for k := range l {
			l[k] = drawnStep(r)
		}
		s, e := holdsText(t, c, l)
		if e != api.OK || len(s) > 65536 {
			t.Fatal(len(s), e)
		}
		wantParse(t, s, c, l, 0, api.OK)
	}
	for _, bytes := range []int{65535, 65536} {
		s := sized(bytes, 700)
		c, l, _, e := play.Parse(s)
		if e != api.OK {
			t.Fatal(e)
		}
		wantText(t, c, l, s, api.OK)
	}
}

// spoilt is a text with some of its bytes changed, or lines changed about.
func spoilt(r *rand.Rand, s string) string {
	b := []byte(s)
	for range r.Intn(3) {
		n := r.Intn(len(b) + 1)
		switch r.Intn(6) {
		case 0:
			b = b[:n]
		case 1:
			b = slices.Insert(b, n, "\n 0123456789=abf"[r.Intn(16)])
		case 2:
			b = slices.Delete(b, n, min(n+1, len(b)))
		case 3:
			b = slices.Insert(b, n, b[n:]...)
		default:
			if n < len(b) {
				b[n] = "\n 0123456789=abfFx+-\r"[r.Intn(21)]
			}
		}
		if len(b) == 0 {
			b = []byte("\n")
		}
	}
	return string(b)
}

func TestParsedIsText(t *testing.T) {
	ends(t, "drawn texts", func() {
		taken, refused := 0, 0
		for seed := range int64(12000) {
			r := rnd(seed)
			s, _ := textAgain(drawnConfig(r), drawnSteps(r, 6))
			s = spoilt(r, s)
			c, l, e := holdsParse(t, s)
			if e != api.OK {
				refused++
				continue
			}
			taken++
			wantText(t, c, l, s, api.OK)
		}
		if taken < 3000 || refused < 3000 {
			t.Fatal(taken, "taken", refused, "refused")
		}
	})
}

func TestParsedIsTextOfBytes(t *testing.T) {
	for seed := range int64(3000) {
		r := rnd(seed)
		b := make([]byte, r.Intn(40))
		for n := range b {
			b[n] = "\n 01=fletpick"[r.Intn(13)]
		}
		for _, s := range []string{string(b), plainLine + string(b), plainLine + "pick 1" + string(b) + "\n"} {
			if c, l, e := holdsParse(t, s); e == api.OK {
				wantText(t, c, l, s, api.OK)
			}
		}
	}
}

// answersOf are the lines of a run without any round that come ahead of idle or busy.
func answersOf(t *testing.T, s string) string {
	t.Helper()
	out, _, e := play.Run(s, 0)
	if e != api.OK {
		t.Fatalf("Run(%q): %d", s, e)
	}
	var lines []string
	for _, line := range strings.SplitAfter(out, "\n") {
		if line == "idle\n" || line == "busy\n" {
			return strings.Join(lines, "")
		}
		lines = append(lines, line)
	}
	t.Fatalf("neither idle nor busy: %q", out)
	return ""
}

// The lines of the first steps are the first lines, whatever comes behind, and however many rounds.
func TestFirstLines(t *testing.T) {
	ends(t, "first lines", func() {
		for seed := range int64(150) {
			r := rnd(seed)
			c, l := drawnLife(r, 40)
			whole, _ := textAgain(c, l)
			out, _, _ := play.Run(whole, 50)
			_, other := drawnLife(r, 20)
			ahead := ""
			for n := range len(l) + 1 {
				s, _ := textAgain(c, l[:n])
				first := answersOf(t, s)
				if !strings.HasPrefix(first, ahead) || !strings.HasPrefix(out, first) {
					t.Fatalf("%q tells %q, the first %d steps %q, one less %q", whole, out, n, first, ahead)
				}
				ahead = first
				if n%5 == 0 {
					s, _ := textAgain(c, append(slices.Clone(l[:n]), other...))
					if behind := answersOf(t, s); !strings.HasPrefix(behind, first) {
						t.Fatalf("%q tells %q, its first %d steps %q", s, behind, n, first)
					}
				}
			}
		}
	})
}

// More rounds bring more lines behind those of fewer.
func TestFirstRounds(t *testing.T) {
	for seed := range int64(300) {
		c, l := drawnLife(rnd(seed), 40)
		ahead := ""
		for n := range 12 {
			a, b, _ := holdsRun(t, c, l, n)
			if !strings.HasPrefix(a+b, ahead) {
				t.Fatalf("%d rounds tell %q, one less %q", n, a+b, ahead)
			}
			ahead = a + b
		}
	}
}
