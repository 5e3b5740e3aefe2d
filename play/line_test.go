package play_test

import (
	"fmt"
	"strings"
	"testing"

	"flotilla/api"
	"flotilla/play"
)

// 22.3: Line

func wantLine(t *testing.T, a api.Answer, want string) {
	t.Helper()
	if got := play.Line(a); got != want {
		t.Fatalf("Line(%+v): %q, want %q", a, got, want)
	}
	if again := lineAgain(a); again != want {
		t.Fatalf("the second reading has %q of %+v, want %q", again, a, want)
	}
}

func TestLineOfEachKind(t *testing.T) {
	words := []string{"ok", "value", "pairs", "none", "twice", "victim", "logfull", "full", "busy", "down", "bad"}
	kinds := []api.Reply{api.ReplyOK, api.ReplyValue, api.ReplyPairs, api.ReplyNone, api.ReplyTwice, api.ReplyVictim, api.ReplyLogFull, api.ReplyFull, api.ReplyBusy, api.ReplyDown, api.ReplyBad}
	if len(kinds) != int(api.ReplyCount)-1 {
		t.Fatal(len(kinds))
	}
	for n, k := range kinds {
		want := "7 " + words[n] + " 32"
		switch k {
		case api.ReplyValue:
			wantLine(t, api.Answer{Step: 7, Kind: k, Lsn: 32}, want+" =")
			wantLine(t, api.Answer{Step: 7, Kind: k, Lsn: 32, Value: "xyz"}, want+" =78797a")
			wantLine(t, api.Answer{Step: 7, Kind: k, Lsn: 32, Value: "xyz", Pairs: []api.Pair{{Key: "a"}}}, want+" =78797a")
			continue
		case api.ReplyOK:
			wantLine(t, api.Answer{Step: 7, Kind: k, Lsn: 32, Value: "0"}, want+" =30")
			wantLine(t, api.Answer{Step: 7, Kind: k, Lsn: 32, Pairs: []api.Pair{{Key: "a"}}}, want)
		case api.ReplyPairs:
			wantLine(t, api.Answer{Step: 7, Kind: k, Lsn: 32, Value: "0"}, want)
			wantLine(t, api.Answer{Step: 7, Kind: k, Lsn: 32, Pairs: []api.Pair{}}, want)
			wantLine(t, api.Answer{Step: 7, Kind: k, Lsn: 32, Pairs: []api.Pair{{Key: "a", Value: "x"}}}, want+" =61 =78")
			wantLine(t, api.Answer{Step: 7, Kind: k, Lsn: 32, Pairs: []api.Pair{{Key: "a"}, {Value: "x"}, {}, {Key: "a", Value: "x"}}}, want+" =61 = = =78 = = =61 =78")
		default: // nothing behind the number, whatever there is
			wantLine(t, api.Answer{Step: 7, Kind: k, Lsn: 32, Value: "0", Pairs: []api.Pair{{Key: "a", Value: "x"}}}, want)
		}
		wantLine(t, api.Answer{Step: 7, Kind: k, Lsn: 32}, want)
	}
}

func TestLineOfNoKind(t *testing.T) {
	for _, k := range []api.Reply{0, -1, api.ReplyCount, api.ReplyCount + 1, -api.ReplyCount, 1 << 40, 1<<63 - 1, -1 << 63, -1<<63 + 1} {
		wantLine(t, api.Answer{Kind: k}, "0 bad 0")
		wantLine(t, api.Answer{Step: 3, Kind: k, Lsn: 17, Value: "x", Pairs: []api.Pair{{Key: "a", Value: "x"}}}, "3 bad 17")
	}
}

func TestLineNumbers(t *testing.T) {
	for k := range api.ReplyCount + 1 {
		for _, n := range []api.Lsn{0, 1, 9, 10, 16, 1 << 31, 1<<31 - 1, 1 << 32, 1<<53 + 1, 1<<60 + 15, 1<<63 - 1, 1 << 63, 1<<64 - 2, 1<<64 - 1} {
			for _, step := range []int{0, 1, 10, 1023, 1<<31 - 1} {
				w := strings.Split(play.Line(api.Answer{Step: step, Kind: k, Lsn: n}), " ")
				if len(w) < 3 || w[0] != fmt.Sprint(step) || w[2] != fmt.Sprint(uint64(n)) {
					t.Fatal(step, k, uint64(n), w)
				}
			}
		}
	}
	wantLine(t, api.Answer{Kind: api.ReplyOK, Lsn: 1<<64 - 1}, "0 ok 18446744073709551615")
	wantLine(t, api.Answer{Kind: api.ReplyOK, Lsn: 1 << 63}, "0 ok 9223372036854775808")
	wantLine(t, api.Answer{Kind: api.ReplyNone}, "0 none 0")
}

func TestLineBytes(t *testing.T) {
	for b := range 256 {
		s := string([]byte{byte(b)})
		x := fmt.Sprintf("%02x", b)
		wantLine(t, api.Answer{Kind: api.ReplyValue, Value: s}, "0 value 0 ="+x)
		wantLine(t, api.Answer{Kind: api.ReplyOK, Value: s + s}, "0 ok 0 ="+x+x)
		wantLine(t, api.Answer{Kind: api.ReplyPairs, Pairs: []api.Pair{{Key: "a" + s, Value: s + "b"}, {Key: s}}}, "0 pairs 0 =61"+x+" ="+x+"62 ="+x+" =")
	}
	long := strings.Repeat("\n\xff", 40000)
	wantLine(t, api.Answer{Kind: api.ReplyValue, Value: long}, "0 value 0 ="+strings.Repeat("0aff", 40000))
}

func TestLineDrawn(t *testing.T) {
	ends(t, "drawn answers", func() {
		r := rnd(1)
		for range 20000 {
			a := api.Answer{Step: drawnNumber(r), Kind: api.Reply(r.Intn(int(api.ReplyCount)+3) - 1), Value: drawnText(r), Lsn: api.Lsn(r.Uint64() >> r.Intn(64))}
			for range r.Intn(4) {
				a.Pairs = append(a.Pairs, api.Pair{Key: drawnText(r), Value: drawnText(r)})
			}
			line := play.Line(a)
			wantLine(t, a, line)
			if strings.ContainsAny(line, "\n\r\t") || strings.Contains(line, "  ") || strings.TrimSpace(line) != line {
				t.Fatalf("Line(%+v): %q", a, line)
			}
		}
	})
}
