package fleet_test

import (
	"testing"

	"flotilla/api"
)

// 21.5, 21.8, 21.9: pages that are handed over, fast and written first, while their owner, or who asks, crashes

// slowly is steps with all that goes on behind each of them, bit by bit.
func slowly(insts, turns int, steps ...api.Step) []api.Step {
	var l []api.Step
	for _, s := range steps {
		l = append(l, s)
		for range turns {
			for n := 1; n <= insts; n++ {
				l = append(l, deliver(n, 0), deliver(0, n), pick(n))
			}
		}
	}
	return l
}

// trips has a page go to and fro, with what is committed and what isn't.
func trips() []api.Step {
	return slowly(2, 4,
		begin(1, 0), put(1, 0, "a", "1"), commit(1, 0),
		begin(2, 0), put(2, 0, "b", "2"), put(2, 0, "a", "3"),
		begin(1, 0), get(1, 0, "a"), commit(2, 0), put(1, 0, "b", "4"), abort(1, 0),
		begin(2, 1), remove(2, 1, "a"), save(2, 1), commit(2, 1))
}

// A way is what is done behind a crash.
func recoveries(w *world, crashed, way int) {
	other := 3 - crashed
	switch way {
	case 0:
		w.do(restart(crashed, 0))
	case 1:
		w.do(recovery(other, crashed, 0))
		w.do(restart(crashed, 0))
	case 2: // both crash
		w.do(crash(other, 1))
		w.do(restart(other, 0))
		w.do(recovery(other, crashed, 0))
		w.do(restart(crashed, 0))
	case 3:
		w.do(crash(other, 0))
		w.do(restart(crashed, 0))
		w.do(recovery(crashed, other, 0))
		w.do(restart(other, 0))
	case 4: // who recovers crashes amid it
		w.do(recovery(other, crashed, 2))
		w.do(restart(crashed, 2))
		w.do(restart(other, 0))
		w.do(restart(crashed, 0))
	case 5: // what others want goes on ahead of the recovery
		w.calmly()
		w.do(restart(crashed, 3))
		w.calmly()
		w.do(recovery(other, crashed, 0))
		w.calmly()
		w.do(restart(crashed, 0))
	}
}

func TestCrashesAmidHandovers(t *testing.T) {
	ends(t, "handovers", func() {
		steps := trips()
		for _, c := range []api.Config{
			{Insts: 2, Pages: 1, Frames: 1, Log: 4096},
			{Insts: 2, Pages: 1, Frames: 1, Log: 4096, Fast: []bool{true}},
			{Insts: 2, Pages: 3, Frames: 1, Log: 4096, Fast: []bool{true, false, true}},
		} {
			for at := range steps {
				crashed, sectors := 1+at%2, at/2%3
				for who := range 2 {
					way := (at/6 + 3*who) % 6
					w := newWorld(t, c)
					for _, s := range steps[:at] {
						w.do(s)
					}
					w.do(crash(1+(crashed+who)%2, sectors))
					recoveries(w, 1+(crashed+who)%2, way)
					for _, s := range steps[at:] {
						w.do(s)
					}
					w.endPlainly()
					w.serial()
				}
			}
		}
	})
}

// Each page that is handed over has all that was done to it, however it goes, and however often.
func TestManyHandovers(t *testing.T) {
	for _, c := range []api.Config{
		{Insts: 8, Pages: 1, Frames: 1, Log: api.MaxLog, Fast: []bool{true}},
		{Insts: 8, Pages: 1, Frames: 1, Log: api.MaxLog},
		{Insts: 8, Pages: 3, Frames: 2, Log: api.MaxLog, Fast: []bool{true, false}},
	} {
		f := made(t, c)
		want := map[string]string{}
		for n := range 100 {
			inst := 1 + n*n%8
			key := string([]byte{'a' + byte(n%9)})
			okay(t, f, begin(inst, 0))
			if v, is := want[key]; is {
				wantAnswer(t, f, get(inst, 0, key), api.ReplyValue, v)
			} else {
				wantAnswer(t, f, get(inst, 0, key), api.ReplyNone, "")
			}
			value := string([]byte{'0' + byte(n%10), 'A' + byte(n/10)})
			okay(t, f, put(inst, 0, key, value))
			if n%7 == 6 {
				okay(t, f, abort(inst, 0))
			} else {
				okay(t, f, commit(inst, 0))
				want[key] = value
			}
			if n%13 == 12 {
				other := 1 + n%8
				okay(t, f, crash(other, 0), restart(other, 0))
			}
			wantPairs(t, f, want)
		}
	}
}

// Those who only read a page have it one behind the other, while all have it locked.
func TestManyReaders(t *testing.T) {
	for _, fast := range []bool{true, false} {
		f := made(t, api.Config{Insts: 8, Pages: 1, Frames: 1, Log: 4096, Fast: []bool{fast}})
		okay(t, f, begin(1, 0), put(1, 0, "a", "x"), commit(1, 0))
		for n := 1; n <= 8; n++ {
			for sess := range 4 {
				f.Do(begin(n, sess))
				f.Do(get(n, sess, "a"))
			}
		}
		l := calm(t, f)
		if len(l) != 32 {
			t.Fatal(l)
		}
		for _, a := range l {
			if a.Kind != api.ReplyValue || a.Value != "x" {
				t.Fatal(a)
			}
		}
	}
}
