package play_test

import (
	"fmt"
	"slices"
	"strings"
	"testing"

	"flotilla/api"
	"flotilla/play"
)

// 22.4: Run

func TestRunExample(t *testing.T) {
	wantRun(t, "fleet 1 1 1 1024\nbegin 1 0\n", 0, "0 ok 16\nidle\n", 0, api.OK)
}

func TestRunNothing(t *testing.T) {
	for _, rounds := range []int{-1, 0, 1, 1024, 2000} {
		wantRun(t, "fleet 1 1 1 1024\n", rounds, "idle\n", 0, api.OK)
		wantRun(t, "fleet 8 16 16 32768 0101010101010101\n", rounds, "idle\n", 0, api.OK)
		wantRun(t, "fleet 1 1 1 64\npick 0\npick 1\ncheck 9\nclean 1 0\nrestart 1 0\nrecover 1 1 0\ndeliver 7 7\n", rounds, "idle\n", 0, api.OK)
	}
}

func TestRunErrors(t *testing.T) {
	for _, c := range []struct {
		s   string
		n   int
		err api.Errno
	}{
		{"", 0, api.ErrForm},
		{"fleet 1 1 1\n", 0, api.ErrForm},
		{"fleet 1 1 1 1024\nbegin 1\n", 1, api.ErrForm},
		{"fleet 1 1 1 1024\nbegin 1 0\npick 0", 2, api.ErrForm},
		{"fleet 1 1 1 1024\n" + strings.Repeat("begin 1 0\n", 1025), 1025, api.ErrLong},
		{strings.Repeat(" ", 65537), 0, api.ErrLong},
		{"fleet 0 1 1 1024\nbegin 1\n", 1, api.ErrForm}, // Parse's comes first
		{"fleet 0 1 1 1024\n" + strings.Repeat("begin 1 0\n", 1025), 1025, api.ErrLong},
		{"fleet 0 1 1 1024\n", 0, api.ErrArg},
		{"fleet 9 1 1 1024\n", 0, api.ErrArg},
		{"fleet 1 0 1 1024\n", 0, api.ErrArg},
		{"fleet 1 17 1 1024\n", 0, api.ErrArg},
		{"fleet 1 1 0 1024\n", 0, api.ErrArg},
		{"fleet 1 1 17 1024\n", 0, api.ErrArg},
		{"fleet 1 1 1 0\n", 0, api.ErrArg},
		{"fleet 1 1 1 63\n", 0, api.ErrArg},
		{"fleet 1 1 1 65\n", 0, api.ErrArg},
		{"fleet 1 1 1 32832\n", 0, api.ErrArg},
		{"fleet 1 1 1 1024 00\n", 0, api.ErrArg},
		{"fleet 0 0 0 0\nbegin 1 0\n", 0, api.ErrArg},
		{"fleet 2147483647 2147483647 2147483647 2147483647\nbegin 1 0\n", 0, api.ErrArg},
	} {
		for _, rounds := range []int{-5, 0, 1, 1024, 5000} {
			wantRun(t, c.s, rounds, "", c.n, c.err)
		}
	}
	for _, s := range []string{"fleet 1 1 1 64\n", "fleet 8 16 16 32768\n", "fleet 1 1 1 1024 1\n", "fleet 1 16 1 64 1111111111111111\n"} {
		wantRun(t, s, 0, "idle\n", 0, api.OK)
	}
}

// lived is a script, in which "~" is so many rounds that it gets calm.
func lived(lines ...string) string {
	s := ""
	for _, line := range lines {
		if line == "~" {
			s += strings.Repeat("pick 0\n", 60)
		} else {
			s += line + "\n"
		}
	}
	return s
}

// bare is what was told, without steps' numbers and LSNs, line behind line.
func bare(s string) string {
	var out []string
	for _, line := range strings.Split(strings.TrimSuffix(s, "\n"), "\n") {
		w := strings.Split(line, " ")
		if w[0] != "map" && len(w) > 2 {
			w = slices.Delete(w, 2, 3)[1:]
		}
		out = append(out, strings.Join(w, " "))
	}
	return strings.Join(out, ", ")
}

// holdsScript holds Run of a script against the second reading.
func holdsScript(t *testing.T, s string, rounds int) string {
	t.Helper()
	c, l, e := holdsParse(t, s)
	if e != api.OK {
		t.Fatalf("%q isn't a script: %d", s, e)
	}
	a, b, d := holdsRun(t, c, l, rounds)
	return a + b + d
}

func wantLife(t *testing.T, rounds int, want string, lines ...string) {
	t.Helper()
	s := lived(lines...)
	if got := bare(holdsScript(t, s, rounds)); got != want {
		t.Fatalf("%v: %s, want %s", lines, got, want)
	}
}

// The examples of the whole, as scripts.
func TestRunLives(t *testing.T) {
	two, big := "fleet 2 1 1 4096", "fleet 2 2 2 8192"
	set := []string{"begin 1 0", "put 1 0 =61 =78", "~", "commit 1 0", "~"} // a has x
	after := func(lines ...string) []string { return append(append([]string{two}, set...), lines...) }
	wantLife(t, 100, "ok, ok, ok, idle, map =61 =78", after()...)
	wantLife(t, 100, "ok, ok, ok, ok, value =78, idle, map =61 =78", after("begin 2 0", "get 2 0 =61")...)
	wantLife(t, 100, "ok, ok, ok, ok, none, idle, map =61 =78", after("begin 2 0", "get 2 0 =62")...)
	wantLife(t, 100, "ok, ok, ok, ok, ok, idle, map =61 =79", two, "begin 1 0", "begin 2 0", "put 1 0 =61 =78", "~", "put 2 0 =61 =79", "~", "commit 1 0", "~")
	wantLife(t, 100, "ok, ok, ok, idle, map =61 =78", two, "begin 1 0", "begin 2 0", "put 1 0 =61 =78", "~", "put 2 0 =61 =79")
	wantLife(t, 100, "ok, ok, ok =30, ok, ok, value =79, idle, map =62 =79", two, "begin 1 0", "put 1 0 =62 =79", "~", "save 1 0", "~", "put 1 0 =62 =7a", "~", "back 1 0 0", "~", "get 1 0 =62")
	wantLife(t, 100, "ok, ok, ok, ok, twice, ok, ok, idle, map =61 =78, map =62 =", after("begin 2 0", "insert 2 0 =61 =79", "~", "insert 2 0 =62 =", "~", "commit 2 0")...)
	wantLife(t, 100, "ok, ok, ok, ok, ok, down, idle, map =61 =78", after("begin 1 0", "put 1 0 =61 =79", "~", "crash 1 0", "commit 1 0", "restart 1 0")...)
	wantLife(t, 100, "ok, ok, ok, idle, map =61 =78", after("crash 1 0", "crash 2 0", "restart 1 0", "recover 1 2 0", "~", "restart 2 0")...)
	wantLife(t, 100, "ok, ok, ok, ok, ok, idle, map =61 =78", after("begin 1 0", "put 1 0 =61 =79", "~", "crash 1 0", "restart 1 2", "restart 1 0")...)
	wantLife(t, 100, "ok, ok, ok, ok, ok, ok, ok, ok, pairs =61 =79 =62 =7a, idle, map =61 =79, map =62 =7a", after("begin 1 0", "put 1 0 =61 =79", "~", "begin 2 0", "scan 2 0 =61 =7a", "~", "put 1 0 =62 =7a", "~", "commit 1 0")...)
	wantLife(t, 100, "ok, pairs, idle", two, "begin 1 0", "scan 1 0 = =ff")
	wantLife(t, 100, "ok, bad, bad, bad, bad, idle", big, "begin 1 0", "begin 1 0", "begin 3 0", "begin 1 4", "get 2 0 =61")
	wantLife(t, 100, "ok, ok, ok, none, ok, idle", big, "begin 1 0", "put 1 0 =61 =78", "~", "delete 1 0 =61", "~", "delete 1 0 =61", "~", "abort 1 0")
}

// A ring, a log and a page without room: the words that come seldom.
func TestRunSeldomWords(t *testing.T) {
	ring := lived("fleet 2 2 2 8192", "begin 1 0", "begin 2 0", "put 1 0 =61 =78", "~", "put 2 0 =62 =79", "~", "put 1 0 =62 =78", "~", "put 2 0 =61 =79")
	if got := holdsScript(t, ring, 200); strings.Count(got, " victim ") != 1 || strings.Count(got, " ok ") != 5 {
		t.Fatal(got)
	}
	full := []string{"fleet 1 1 1 32768", "begin 1 0"}
	for n := range 16 {
		full = append(full, fmt.Sprintf("put 1 0 =%02x =%s", n, strings.Repeat("76", 32)), "~")
	}
	got := holdsScript(t, lived(full...), 100)
	if !strings.Contains(got, " full ") || strings.Count(got, "map =") != strings.Count(got, " ok ")-1 {
		t.Fatal(got)
	}
	logs := append([]string{"fleet 1 1 1 512"}, full[1:]...)
	if got := holdsScript(t, lived(logs...), 100); !strings.Contains(got, " logfull ") {
		t.Fatal(got)
	}
}

// Answers come at once, with a step behind, or with the rounds at last alone; the rounds' number is Calm's.
func TestRunRounds(t *testing.T) {
	at := "fleet 1 1 1 1024\nbegin 1 0\nget 1 0 =61\n"
	if got := bare(holdsScript(t, at, 0)); got != "ok, busy" {
		t.Fatal(got)
	}
	if got := bare(holdsScript(t, at, 20)); got != "ok, none, idle" {
		t.Fatal(got)
	}
	later := at + strings.Repeat("pick 0\n", 20)
	if got := bare(holdsScript(t, later, 0)); got != "ok, none, idle" {
		t.Fatal(got)
	}
	lines := []string{"fleet 8 2 1 4096"} // both pages go from each to each
	for n := 1; n <= 8; n++ {
		lines = append(lines, fmt.Sprintf("begin %d 0", n), fmt.Sprintf("get %d 0 =61", n), fmt.Sprintf("begin %d 1", n), fmt.Sprintf("get %d 1 =62", n))
	}
	s := lived(lines...)
	none := holdsScript(t, s, 0)
	for _, n := range []int{-1, -2, -1024, -1025, -1 << 32, -1 << 63} {
		wantRun(t, s, n, none, 0, api.OK)
	}
	busy := 0
	for n := range 60 {
		got := holdsScript(t, s, n)
		if strings.Contains(got, "busy\n") {
			busy++
		}
	}
	if busy < 3 || busy > 50 {
		t.Fatal("busy for", busy, "rounds")
	}
	most := holdsScript(t, s, 1024)
	if strings.Contains(most, "busy") {
		t.Fatal(most)
	}
	for _, n := range []int{1023, 1025, 2048, 1 << 31, 1 << 32, 1<<63 - 1} {
		wantRun(t, s, n, most, 0, api.OK)
	}
}

// What is taken back page by page, with one frame, goes on for hundreds of rounds.
func TestRunManyRounds(t *testing.T) {
	lines := []string{"fleet 1 2 1 32768", "begin 1 0"}
	for n := range 200 {
		lines = append(lines, fmt.Sprintf("put 1 0 =%02x =", 0x61+n%2), "pick 0", "pick 0", "pick 0", "pick 0")
	}
	s := lived(append(lines, "abort 1 0")...)
	for _, n := range []int{0, 20, 100, 255, 256, 400, 500} {
		if got := holdsScript(t, s, n); !strings.Contains(got, "busy\n") || strings.Count(got, " ok ") != 201 {
			t.Fatal(n, got)
		}
	}
	got := holdsScript(t, s, 1024)
	if !strings.HasSuffix(got, "\nidle\n") || strings.Count(got, " ok ") != 202 {
		t.Fatal(got)
	}
	wantRun(t, s, 1<<40, got, 0, api.OK)
}

// What goes on for more rounds than are done stays busy.
func TestRunStaysBusy(t *testing.T) {
	s := lived("fleet 2 1 1 4096", "begin 1 0", "put 1 0 =61 =78", "~", "commit 1 0", "~", "crash 1 0", "begin 2 0", "get 2 0 =61")
	for _, n := range []int{0, 1, 1024, 1 << 40} {
		if got := bare(holdsScript(t, s, n)); got != "ok, ok, ok, ok, busy" && got != "ok, ok, ok, ok, busy, map =61 =78" {
			t.Fatal(n, got)
		}
	}
	for _, more := range []string{"restart 1 0\n", "recover 2 1 0\n"} {
		if got := bare(holdsScript(t, s+more, 1024)); got != "ok, ok, ok, ok, value =78, idle, map =61 =78" {
			t.Fatal(got)
		}
	}
}

// The lines of the table: of all pages, by rising key, with any bytes.
func TestRunMap(t *testing.T) {
	lines := []string{"fleet 2 8 4 32768", "begin 1 0"}
	want := []string{}
	for n := range 30 {
		k := byte(n * 37)
		lines = append(lines, fmt.Sprintf("put 1 0 =%02x0a =%02x", k, n), "~")
		want = append(want, fmt.Sprintf("map =%02x0a =%02x", k, n))
	}
	lines = append(lines[:min(len(lines), 30)], "commit 1 0") // half of them, so that the script isn't too long
	want = want[:14]
	slices.Sort(want)
	got := holdsScript(t, lived(lines...), 200)
	if _, table, ok := strings.Cut(got, "idle\n"); !ok || table != strings.Join(want, "\n")+"\n" {
		t.Fatalf("%q, want %q", table, want)
	}
	if got := holdsScript(t, "fleet 1 1 1 1024\nbegin 1 0\nput 1 0 =61 =\n", 50); !strings.HasSuffix(got, "idle\nmap =61 =\n") {
		t.Fatal(got)
	}
}

func TestRunDrawn(t *testing.T) {
	ends(t, "drawn lives", func() {
		seen := map[string]int{}
		for seed := range int64(1500) {
			r := rnd(seed)
			c, l := drawnLife(r, 120)
			rounds := some(r, []int{-1, 0, 1, 2, 5, 30, 1024, 3000})
			a, b, d := holdsRun(t, c, l, rounds)
			for _, line := range strings.Split(strings.TrimSuffix(a+b+d, "\n"), "\n") {
				w := strings.Split(line, " ")
				if w[0] == "map" || len(w) == 1 {
					seen[w[0]]++
				} else {
					seen[w[1]]++
				}
			}
			if b != "" {
				seen["at last"]++
			}
		}
		for _, w := range []string{"ok", "value", "pairs", "none", "twice", "down", "bad", "idle", "busy", "map", "at last"} {
			if seen[w] < 20 {
				t.Fatal(w, "only", seen[w], "times", seen)
			}
		}
	})
}

// The second of two runs of a script brings the same.
func TestRunAgain(t *testing.T) {
	for seed := range int64(100) {
		c, l := drawnLife(rnd(seed), 60)
		s, _ := textAgain(c, l)
		a, _, _ := play.Run(s, 10)
		wantRun(t, s, 10, a, 0, api.OK)
	}
}
