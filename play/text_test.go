package play_test

import (
	"reflect"
	"slices"
	"strings"
	"testing"

	"flotilla/api"
	"flotilla/play"
)

// 22.1: Text

// plain is a config of small numbers.
func plain() api.Config { return api.Config{Insts: 2, Pages: 3, Frames: 4, Log: 640} }

const plainLine = "fleet 2 3 4 640\n"

func TestTextOfEachKind(t *testing.T) {
	for _, c := range []struct {
		step api.Step
		line string
	}{
		{api.Step{Kind: api.StepBegin, Inst: 1, Sess: 2}, "begin 1 2"},
		{api.Step{Kind: api.StepGet, Inst: 1, Sess: 2, Key: "a"}, "get 1 2 =61"},
		{api.Step{Kind: api.StepPut, Inst: 1, Sess: 2, Key: "a", Value: "xyz"}, "put 1 2 =61 =78797a"},
		{api.Step{Kind: api.StepInsert, Inst: 1, Sess: 2, Key: "a", Value: "xyz"}, "insert 1 2 =61 =78797a"},
		{api.Step{Kind: api.StepDelete, Inst: 1, Sess: 2, Key: "a"}, "delete 1 2 =61"},
		{api.Step{Kind: api.StepScan, Inst: 1, Sess: 2, Key: "a", Value: "z"}, "scan 1 2 =61 =7a"},
		{api.Step{Kind: api.StepSave, Inst: 1, Sess: 2}, "save 1 2"},
		{api.Step{Kind: api.StepBack, Inst: 1, Sess: 2, N: 3}, "back 1 2 3"},
		{api.Step{Kind: api.StepAbort, Inst: 1, Sess: 2}, "abort 1 2"},
		{api.Step{Kind: api.StepCommit, Inst: 1, Sess: 2}, "commit 1 2"},
		{api.Step{Kind: api.StepCheck, Inst: 1}, "check 1"},
		{api.Step{Kind: api.StepPick, Inst: 1}, "pick 1"},
		{api.Step{Kind: api.StepDeliver, Inst: 1, From: 4}, "deliver 4 1"},
		{api.Step{Kind: api.StepCrash, Inst: 1, N: 3}, "crash 1 3"},
		{api.Step{Kind: api.StepRestart, Inst: 1, From: 4}, "restart 1 4"},
		{api.Step{Kind: api.StepRecover, Inst: 1, N: 3, From: 4}, "recover 1 3 4"},
		{api.Step{Kind: api.StepClean, Inst: 1, N: 3}, "clean 1 3"},
	} {
		wantText(t, plain(), []api.Step{c.step}, plainLine+c.line+"\n", api.OK)
		wantParse(t, plainLine+c.line+"\n", plain(), []api.Step{c.step}, 0, api.OK)
		wantText(t, plain(), []api.Step{c.step, c.step}, plainLine+c.line+"\n"+c.line+"\n", api.OK)
		holdsText(t, plain(), []api.Step{{Kind: c.step.Kind}}) // all that it names is zero
	}
}

func TestTextOfConfigs(t *testing.T) {
	wantText(t, api.Config{}, nil, "fleet 0 0 0 0\n", api.OK)
	wantText(t, api.Config{}, []api.Step{}, "fleet 0 0 0 0\n", api.OK)
	wantText(t, plain(), nil, plainLine, api.OK)
	wantText(t, api.Config{Insts: great, Pages: great, Frames: great, Log: great}, nil, "fleet 2147483647 2147483647 2147483647 2147483647\n", api.OK)
}

func TestTextOfFast(t *testing.T) {
	for _, c := range []struct {
		fast []bool
		line string
	}{
		{nil, "fleet 2 3 4 640\n"},
		{[]bool{}, "fleet 2 3 4 640\n"},
		{[]bool{false}, "fleet 2 3 4 640 0\n"},
		{[]bool{true}, "fleet 2 3 4 640 1\n"},
		{[]bool{true, false, false}, "fleet 2 3 4 640 100\n"},
		{[]bool{false, true, true, false}, "fleet 2 3 4 640 0110\n"}, // more than Pages: no such fleet, but a script
		{slices.Repeat([]bool{true, false}, 8), "fleet 2 3 4 640 1010101010101010\n"},
	} {
		p := plain()
		p.Fast = c.fast
		wantText(t, p, nil, c.line, api.OK)
		wantParse(t, c.line, p, nil, 0, api.OK)
	}
	for _, n := range []int{17, 18, 32, 1000} {
		p := plain()
		p.Fast = make([]bool, n)
		wantText(t, p, nil, "", api.ErrLong)
	}
}

// Each number is let in from 0 to 2^31 - 1, wherever it stands.
func TestTextNumbers(t *testing.T) {
	numbers := []int{0, 1, 10, great - 1, great, great + 1, -1, -2, 1 << 32, 1<<32 + 5, -great, -great - 1, 1<<63 - 1, -1 << 63, -1<<63 + 5}
	for _, n := range numbers {
		want := api.ErrArg
		if n >= 0 && n <= great {
			want = api.OK
		}
		for k := range 4 {
			c := plain()
			*[]*int{&c.Insts, &c.Pages, &c.Frames, &c.Log}[k] = n
			if _, e := holdsText(t, c, nil); e != want {
				t.Fatal(c, e)
			}
		}
		for kind, f := range theForms {
			for _, name := range f.fields {
				if isText(name) {
					continue
				}
				s := api.Step{Kind: kind}
				reflect.ValueOf(&s).Elem().FieldByName(name).SetInt(int64(n))
				if _, e := holdsText(t, plain(), []api.Step{s}); e != want {
					t.Fatal(s, e)
				}
			}
		}
	}
}

// What a line doesn't name must be zero.
func TestTextUnnamed(t *testing.T) {
	for kind, f := range theForms {
		for _, name := range []string{"Inst", "Sess", "From", "N", "Key", "Value"} {
			named := slices.Contains(f.fields, name)
			for _, n := range []int{1, -1, great, 1 << 40, -1 << 63} {
				s := api.Step{Kind: kind}
				v := reflect.ValueOf(&s).Elem().FieldByName(name)
				if isText(name) {
					v.SetString([]string{"\x00", "a"}[n&1])
				} else {
					v.SetInt(int64(n))
				}
				_, e := holdsText(t, plain(), []api.Step{s})
				if !named && e != api.ErrArg {
					t.Fatal(s, e, "though it isn't named")
				}
				if named && n > 0 && n <= great && e != api.OK {
					t.Fatal(s, e)
				}
			}
		}
	}
}

func TestTextOfNoKind(t *testing.T) {
	for _, k := range []api.StepKind{api.StepNone, api.StepCount, api.StepCount + 1, -1, -api.StepCount, 1 << 40, -1 << 63, 1<<63 - 1} {
		wantText(t, plain(), []api.Step{{Kind: k}}, "", api.ErrArg)
		wantText(t, plain(), []api.Step{{Kind: k, Inst: 1}}, "", api.ErrArg)
	}
	if len(theForms) != int(api.StepCount)-1 {
		t.Fatal(len(theForms), "kinds have a line")
	}
}

// A fault is told wherever it stands.
func TestTextFaultAnywhere(t *testing.T) {
	good := api.Step{Kind: api.StepPick}
	for n := range 20 {
		l := slices.Repeat([]api.Step{good}, 20)
		l[n].N = 1
		wantText(t, plain(), l, "", api.ErrArg)
		l[n] = api.Step{}
		wantText(t, plain(), l, "", api.ErrArg)
		l[n] = api.Step{Kind: api.StepPick, Inst: -1}
		wantText(t, plain(), l, "", api.ErrArg)
	}
	wantText(t, api.Config{Insts: -1}, slices.Repeat([]api.Step{good}, 3), "", api.ErrArg)
}

func TestTextLong(t *testing.T) {
	pick := api.Step{Kind: api.StepPick}
	wantText(t, plain(), slices.Repeat([]api.Step{pick}, 1023), plainLine+strings.Repeat("pick 0\n", 1023), api.OK)
	wantText(t, plain(), slices.Repeat([]api.Step{pick}, 1024), plainLine+strings.Repeat("pick 0\n", 1024), api.OK)
	for _, n := range []int{1025, 1026, 3000} {
		wantText(t, plain(), slices.Repeat([]api.Step{pick}, n), "", api.ErrLong)
		wantText(t, plain(), make([]api.Step, n), "", api.ErrLong)             // ahead of kinds that are none
		wantText(t, api.Config{Log: -1}, make([]api.Step, n), "", api.ErrLong) // and of numbers
	}
	wantText(t, api.Config{Insts: -1, Fast: make([]bool, 17)}, []api.Step{{Kind: -1}}, "", api.ErrLong)
	wantText(t, api.Config{Insts: -1, Fast: make([]bool, 16)}, nil, "", api.ErrArg)
	wantText(t, plain(), make([]api.Step, 1024), "", api.ErrArg)
}

func TestTextBytes(t *testing.T) {
	var all []byte
	for b := range 256 {
		all = append(all, byte(b))
		s := string([]byte{byte(b)})
		line, e := holdsText(t, plain(), []api.Step{{Kind: api.StepPut, Key: s, Value: s + s}})
		if e != api.OK || len(line) != len(plainLine+"put 0 0 =00 =0000\n") {
			t.Fatal(b, line, e)
		}
	}
	for _, s := range []string{"", "\x00", "\n", " ", "=", "=3d", "\xff\xfe", "é", "\U0001F6A2", string(all), strings.Repeat("\n", 100)} {
		l := []api.Step{{Kind: api.StepInsert, Key: s}, {Kind: api.StepGet, Key: s}, {Kind: api.StepScan, Value: s}}
		text, e := holdsText(t, plain(), l)
		if e != api.OK || strings.Count(text, "\n") != 4 {
			t.Fatalf("%q: %q, %d", s, text, e)
		}
		wantParse(t, text, plain(), l, 0, api.OK)
	}
	wantText(t, plain(), []api.Step{{Kind: api.StepPut}}, plainLine+"put 0 0 = =\n", api.OK)
	wantText(t, plain(), []api.Step{{Kind: api.StepPut, Key: "\x00\x0f\xf0\xff"}}, plainLine+"put 0 0 =000ff0ff =\n", api.OK)
}

// What has more bytes than Parse takes is a script nonetheless: 22.1 names no error for it.
func TestTextOfManyBytes(t *testing.T) {
	l := []api.Step{{Kind: api.StepPut, Key: strings.Repeat("k", 40000), Value: strings.Repeat("v", 10)}}
	s, e := holdsText(t, plain(), l)
	if e != api.OK || len(s) != len(plainLine)+len("put 0 0 = =\n")+80020 {
		t.Fatal(len(s), e)
	}
	fails(t, s, 0, api.ErrLong)
}

func TestTextDrawn(t *testing.T) {
	ends(t, "drawn configs and steps", func() {
		for seed := range int64(4000) {
			r := rnd(seed)
			c, l := drawnConfig(r), drawnSteps(r, 8)
			switch r.Intn(12) {
			case 0:
				c.Log = some(r, []int{-1, great + 1})
			case 1:
				c.Fast = make([]bool, 15+r.Intn(4))
			case 2, 3:
				if len(l) > 0 {
					l[r.Intn(len(l))] = api.Step{Kind: api.StepKind(r.Intn(22) - 2), Inst: r.Intn(5) - 1, Sess: r.Intn(2), N: r.Intn(2), From: r.Intn(2)}
				}
			}
			holdsText(t, c, l)
		}
	})
	if s, e := play.Text(api.Config{}, nil); s == "" || e != api.OK {
		t.Fatal(s, e)
	}
}
