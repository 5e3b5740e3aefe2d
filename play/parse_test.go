package play_test

import (
	"fmt"
	"math/rand"
	"strings"
	"testing"

	"flotilla/api"
)

// 22.2: Parse

func rnd(seed int64) *rand.Rand { return rand.New(rand.NewSource(seed)) }

func TestParseTakes(t *testing.T) {
	c := api.Config{Insts: 1, Pages: 1, Frames: 1, Log: 1024}
	wantParse(t, "fleet 1 1 1 1024\n", c, nil, 0, api.OK)
	wantParse(t, "fleet 1 1 1 1024\nbegin 1 0\n", c, []api.Step{{Kind: api.StepBegin, Inst: 1}}, 0, api.OK)
	wantParse(t, "fleet 0 0 0 0\n", api.Config{}, nil, 0, api.OK) // no such fleet, but a script
	c = api.Config{Insts: 2147483647, Pages: 0, Frames: 10, Log: 100, Fast: []bool{true, false}}
	wantParse(t, "fleet 2147483647 0 10 100 10\nput 0 2147483647 = =00ff0a20\nback 7 8 9\n", c, []api.Step{
		{Kind: api.StepPut, Sess: 2147483647, Value: "\x00\xff\n "},
		{Kind: api.StepBack, Inst: 7, Sess: 8, N: 9},
	}, 0, api.OK)
}

// What a line names goes to what it says, whatever else there is.
func TestParsePlaces(t *testing.T) {
	for _, f := range theForms {
		line, names := f.word, map[string]string{"Inst": "11", "Sess": "12", "From": "13", "N": "14", "Key": "=6b", "Value": "=76"}
		for _, name := range f.fields {
			line += " " + names[name]
		}
		_, l, e := holdsParse(t, plainLine+line+"\n")
		if e != api.OK || len(l) != 1 {
			t.Fatal(line, l, e)
		}
		s := l[0]
		if s.Inst != 11 || s.Sess != 0 && s.Sess != 12 || s.From != 0 && s.From != 13 || s.N != 0 && s.N != 14 || s.Key != "" && s.Key != "k" || s.Value != "" && s.Value != "v" {
			t.Fatal(line, s)
		}
	}
}

// sized is a script of so many bytes, with so many steps, of which the last one has a long key.
func sized(bytes, steps int) string {
	head := "fleet 1 1 1 1024\n"
	last := "get 1 0 =\n"
	if steps > 1 {
		head += strings.Repeat("pick 1\n", steps-1)
	}
	if (bytes-len(head)-len(last))%2 == 1 {
		head = strings.Replace(head, "1024", "128", 1)
	}
	return head + "get 1 0 =" + strings.Repeat("61", (bytes-len(head)-len(last))/2) + "\n"
}

func TestParseLength(t *testing.T) {
	for _, steps := range []int{1, 2, 1000, 1024} {
		for _, n := range []int{60000, 65535, 65536} {
			s := sized(n, steps)
			if _, l, e := holdsParse(t, s); len(s) != n || e != api.OK || len(l) != steps {
				t.Fatal(n, steps, len(s), len(l), e)
			}
		}
		for _, n := range []int{65537, 65538, 100000} {
			s := sized(n, steps)
			if len(s) != n {
				t.Fatal(n, len(s))
			}
			fails(t, s, 0, api.ErrLong)
		}
	}
	fails(t, strings.Repeat("\n", 65536), 0, api.ErrForm)
	fails(t, strings.Repeat("\n", 65537), 0, api.ErrLong)
	fails(t, strings.Repeat("x", 65536), 0, api.ErrForm)
	fails(t, strings.Repeat("x", 65537), 0, api.ErrLong)
	fails(t, plainLine+strings.Repeat("pick 1\n", 5)+"x\n"+strings.Repeat("=", 65537), 0, api.ErrLong) // ahead of a bad line
	fails(t, strings.Repeat("pick 1\n", 70000), 0, api.ErrLong)
	fails(t, plainLine+strings.Repeat("pick 1\n", 70000), 0, api.ErrLong)
}

// What can't be line 0.
func TestParseFirstLine(t *testing.T) {
	for _, s := range []string{
		"", "\n", "\n\n", " \n", "fleet\n", "fleet \n", "fleet 1\n", "fleet 1 1\n", "fleet 1 1 1\n", "fleet 1 1 1 \n",
		"fleet 1 1 1 1024 \n", " fleet 1 1 1 1024\n", "fleet  1 1 1 1024\n", "fleet 1 1 1  1024\n", "fleet 1 1 1 1024  1\n", "fleet\t1 1 1 1024\n",
		"Fleet 1 1 1 1024\n", "fleets 1 1 1 1024\n", "flee 1 1 1 1024\n", "fleet1 1 1 1024\n", "fleet 1 1 1 1024\r\n", "fleet 1 1 1 1024\x00\n",
		"fleet 1 1 1 x\n", "fleet 01 1 1 1024\n", "fleet 1 00 1 1024\n", "fleet 1 1 +1 1024\n", "fleet 1 1 1 -1\n", "fleet 1 1 1 2147483648\n", "fleet 1 1 -0 1024\n",
		"fleet 1 1 1 1024 2\n", "fleet 1 1 1 1024 01x\n", "fleet 1 1 1 1024 1 0\n", "fleet 1 1 1 1024 0 \n", "fleet 1 1 1 1024 =00\n", "fleet 1 1 1 1024 t\n", "fleet 1 1 1 1024 -\n",
		"fleet 1 1 1 1024 00000000000000000\n", "fleet 1 1 1 1024 11111111111111111\n", "fleet 1 1 1 1024 " + strings.Repeat("0", 1000) + "\n",
		"begin 1 0\n", "pick 1\n", "begin 1 0\nfleet 1 1 1 1024\n", "\nfleet 1 1 1 1024\n", "fleet =31 1 1 1024\n", "fleet 1 1 1 1024 １\n",
	} {
		fails(t, s, 0, api.ErrForm)
		fails(t, s+"\npick 0\n", 0, api.ErrForm) // not for what comes behind
		holdsParse(t, s)
	}
	fails(t, "fleet 1 1 1 1024", 0, api.ErrForm)
	for _, s := range []string{"fleet 1 1 1 1024 0\n", "fleet 1 1 1 1024 1\n", "fleet 1 1 1 1024 0101010101010101\n"} {
		if _, _, e := holdsParse(t, s); e != api.OK {
			t.Fatal(s, e)
		}
	}
}

// What can't be a step's line, wherever it stands; it is told by its number.
func TestParseStepLines(t *testing.T) {
	for _, s := range []string{
		"", " ", "  ", "x", "=", "0", "begin", "begin ", "begin 1", "begin 1 ", "begin 1 0 ", " begin 1 0", "begin  1 0", "begin 1  0", "begin 1 0 0", "begin 1 0  ", "\tbegin 1 0", "begin\t1 0",
		"Begin 1 0", "BEGIN 1 0", "begins 1 0", "begi 1 0", "begin1 0", "begin 1 0\r", "begin 1 0\x00", "begin,1,0", "none 1", "fleet 1 1 1 1024",
		"get 1 0", "get 1 0 a", "get 1 0 61", "get 1 0 =6", "get 1 0 =616", "get 1 0 =6G", "get 1 0 =6A", "get 1 0 =g1", "get 1 0 =x6", "get 1 0 ==61", "get 1 0 =61=", "get 1 0 = 61", "get 1 0 =61 =61", "get 1 0  =61", "get 1 0 '61", "get =61 1 0", "get 1 =61 0", "get 1 0 =-1", "get 1 0 =+1", "get 1 0 =0x61", "get 1 0 =６", "get 1 0 =6\t",
		"put 1 0 =61", "put 1 0 =61 ", "put 1 0  =61", "put 1 0 =61 61", "put 1 0 =61 =61 =61", "insert 1 0 =61", "delete 1 0", "delete 1 0 =61 =61", "scan 1 0 =61", "scan 1 0 =61 =62 1",
		"save 1", "save 1 0 0", "back 1 0", "back 1 0 =30", "back 1 0 0 0", "abort", "abort 1", "abort 1 0 0", "commit 1", "commit 1 0 0",
		"check", "check 1 0", "check ", "pick", "pick 1 0", "pick 1 ", "pick  1", "pick =31", "deliver 1", "deliver 1 0 0", "crash 1", "crash 1 0 0", "restart 1", "restart 1 0 0", "recover 1 2", "recover 1 2 0 0", "clean 1", "clean 1 0 0",
		"pick 01", "pick 00", "pick -1", "pick -0", "pick +1", "pick +0", "pick 1.0", "pick 1e3", "pick 0x1", "pick 0b1", "pick 1_0", "pick １", "pick 1a", "pick a", "pick 2147483648", "pick 4294967296", "pick 4294967297", "pick 9223372036854775807", "pick 9223372036854775808", "pick 18446744073709551616", "pick 18446744073709551617", "pick " + strings.Repeat("9", 10000), "pick 1" + strings.Repeat("0", 5000), "pick " + strings.Repeat("0", 5000) + "1", "pick NaN", "pick Inf",
	} {
		for _, n := range []int{1, 2, 5} {
			ahead := plainLine + strings.Repeat("begin 1 0\n", n-1)
			fails(t, ahead+s+"\n", n, api.ErrForm)
			fails(t, ahead+s+"\npick 0\n", n, api.ErrForm)
			fails(t, ahead+s+"\n\n\n", n, api.ErrForm) // the first one
			if s != "" {
				fails(t, ahead+s, n, api.ErrForm)
			}
		}
	}
}

func TestParseNumbers(t *testing.T) {
	for _, n := range []int{0, 1, 9, 10, 100, 1000, 1 << 30, 2147483639, 2147483646, 2147483647} {
		c, l, e := holdsParse(t, fmt.Sprintf("fleet %d %d %d %d\npick %d\nrecover %d %d %d\n", n, n, n, n, n, n, n, n))
		if e != api.OK || c.Insts != n || c.Log != n || l[0].Inst != n || l[1].N != n || l[1].From != n {
			t.Fatal(n, c, l, e)
		}
	}
	for _, w := range []string{"2147483648", "2147483649", "2147483650", "3000000000", "10000000000", "4294967295", "-1", "00", "01", "+1", "", "x", "=00"} {
		for _, f := range theForms {
			for k, name := range f.fields {
				line := f.word
				for i, other := range f.fields {
					switch {
					case i == k:
						line += " " + w
					case isText(other):
						line += " ="
					default:
						line += " 1"
					}
				}
				if isText(name) && w == "=00" {
					continue
				}
				fails(t, plainLine+line+"\n", 1, api.ErrForm)
			}
		}
	}
}

// A last line without its end is none, whatever it is.
func TestParseWithoutEnd(t *testing.T) {
	s := "fleet 1 1 1 1024 1\nbegin 1 0\nput 1 0 =61 =62\npick 1\n"
	line := 0
	for n := range len(s) {
		if n > 0 && s[n-1] == '\n' {
			line++
			if _, l, e := holdsParse(t, s[:n]); e != api.OK || len(l) != line-1 {
				t.Fatalf("%q: %v, %d", s[:n], l, e)
			}
			continue
		}
		fails(t, s[:n], line, api.ErrForm)
	}
}

// The 1025th step is told as soon as there is a byte of it.
func TestParseMostSteps(t *testing.T) {
	full := "fleet 1 1 1 1024\n" + strings.Repeat("pick 1\n", 1024)
	if _, l, e := holdsParse(t, full); e != api.OK || len(l) != 1024 {
		t.Fatal(len(l), e)
	}
	if _, l, e := holdsParse(t, full[:len(full)-len("pick 1\n")]); e != api.OK || len(l) != 1023 {
		t.Fatal(len(l), e)
	}
	for _, s := range []string{"pick 1\n", "pick 1", "p", "\n", " ", "x\n", "\n\n\n", "pick 1\nx\n", "pick 1\npick 1\n", "fleet 1 1 1 1024\n", "\x00", strings.Repeat("pick 1\n", 2000), strings.Repeat("x", 30000)} {
		fails(t, full+s, 1025, api.ErrLong)
		holdsParse(t, full+s)
	}
	bad := strings.Replace(full, "pick 1\n", "pick\n", 1) // its line 1 comes ahead
	fails(t, bad+"pick 1\n", 1, api.ErrForm)
	fails(t, full[:len(full)-1], 1024, api.ErrForm)
	fails(t, full[:len(full)-2]+"x\npick 1\n", 1024, api.ErrForm)
	fails(t, strings.Replace(full, "fleet", "flee", 1)+"pick 1\n", 0, api.ErrForm)
	fails(t, strings.Repeat("\n", 3000), 0, api.ErrForm)
	fails(t, "fleet 1 1 1 1024\n"+strings.Repeat("\n", 3000), 1, api.ErrForm)
}

// The number that is told is that of the first bad line, at each place.
func TestParseTellsTheLine(t *testing.T) {
	lines := []string{"fleet 1 1 1 1024"}
	for n := range 40 {
		lines = append(lines, fmt.Sprintf("begin %d %d", n, n))
	}
	for n := range lines {
		spoilt := append([]string{}, lines...)
		spoilt[n] += " "
		fails(t, strings.Join(spoilt, "\n")+"\n", n, api.ErrForm)
		for k := n + 1; k < len(lines); k++ {
			spoilt[k] = "x"
		}
		fails(t, strings.Join(spoilt, "\n")+"\n", n, api.ErrForm)
	}
}

// Each byte of a script is changed, taken away and put in, and what is left is held against the document's words.
func TestParseSpoilt(t *testing.T) {
	good := "fleet 1 10 3 2147483647 01\nbegin 1 0\nput 10 2147483647 =6a =\nscan 0 0 = =0f\nback 1 0 3\ndeliver 0 2\nrecover 1 2 3\npick 0\n"
	bytes := "\x00\n\r\t !+-./0123456789:=@AFG_`aefgxz\x7f\x80\xff"
	if _, l, e := holdsParse(t, good); e != api.OK || len(l) != 7 {
		t.Fatal(l, e)
	}
	for n := range len(good) + 1 {
		for k := range len(bytes) {
			b := bytes[k : k+1]
			holdsParse(t, good[:n]+b+good[n:])
			if n < len(good) {
				holdsParse(t, good[:n]+b+good[n+1:])
			}
		}
		if n < len(good) {
			holdsParse(t, good[:n]+good[n+1:])
		}
		for m := n; m <= len(good); m += 3 {
			holdsParse(t, good[:n]+good[m:])
			holdsParse(t, good[:m]+good[n:])
		}
	}
}

// Every line of few words of a small stock.
func TestParseFewWords(t *testing.T) {
	words := []string{"", "0", "1", "01", "-1", "=", "=61", "=6", "begin", "get", "put", "pick", "deliver", "back", "fleet"}
	var lines []string
	for _, a := range words {
		lines = append(lines, a)
		for _, b := range words {
			lines = append(lines, a+" "+b)
			for _, c := range words {
				lines = append(lines, a+" "+b+" "+c)
				if strings.HasPrefix(a, "=") || a == "" {
					continue
				}
				for _, d := range words {
					lines = append(lines, a+" "+b+" "+c+" "+d, a+" "+b+" "+c+" "+d+" =", a+" "+b+" "+c+" "+d+" 1", a+" "+b+" "+c+" "+d+" 0 1")
				}
			}
		}
	}
	for _, s := range lines {
		holdsParse(t, s+"\n")
		holdsParse(t, plainLine+s+"\n")
	}
}
