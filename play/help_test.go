package play_test

import (
	"fmt"
	"math/big"
	"math/rand"
	"reflect"
	"regexp"
	"slices"
	"strings"
	"testing"
	"time"

	"flotilla/api"
	"flotilla/fleet"
	"flotilla/play"
)

// The chapter's own words, from which the second reading below is made.

const chapterSteps = "begin Inst Sess; get Inst Sess Key; put Inst Sess Key Value; insert Inst Sess Key Value; delete Inst Sess Key; scan Inst Sess Key Value; save Inst Sess; back Inst Sess N; abort Inst Sess; commit Inst Sess; check Inst; pick Inst; deliver From Inst; crash Inst N; restart Inst From; recover Inst N From; clean Inst N"

const chapterReplies = "ok value pairs none twice victim logfull full busy down bad"

// wordKinds has the kind that each of the chapter's words stands for.
func wordKinds() map[string]api.StepKind {
	return map[string]api.StepKind{
		"begin": api.StepBegin, "get": api.StepGet, "put": api.StepPut, "insert": api.StepInsert, "delete": api.StepDelete,
		"scan": api.StepScan, "save": api.StepSave, "back": api.StepBack, "abort": api.StepAbort, "commit": api.StepCommit,
		"check": api.StepCheck, "pick": api.StepPick, "deliver": api.StepDeliver, "crash": api.StepCrash,
		"restart": api.StepRestart, "recover": api.StepRecover, "clean": api.StepClean,
	}
}

// form is a kind's line in the chapter.
type form struct {
	word   string
	fields []string
	line   *regexp.Regexp
}

// forms has the chapter's lines, by their kinds.
func forms() map[api.StepKind]form {
	kinds, all := wordKinds(), map[api.StepKind]form{}
	for _, s := range strings.Split(chapterSteps, "; ") {
		w := strings.Fields(s)
		f := form{word: w[0], fields: w[1:]}
		p := `\A` + f.word
		for _, name := range f.fields {
			p += ` (` + wordPattern(name) + `)`
		}
		f.line = regexp.MustCompile(p + `\n\z`)
		all[kinds[f.word]] = f
	}
	return all
}

const numberPattern = `0|[1-9][0-9]*`

func wordPattern(field string) string {
	if isText(field) {
		return `=(?:[0-9a-f][0-9a-f])*`
	}
	return numberPattern
}

func isText(field string) bool { return field == "Key" || field == "Value" }

var theForms = forms()

var firstLine = regexp.MustCompile(`\Afleet (` + numberPattern + `) (` + numberPattern + `) (` + numberPattern + `) (` + numberPattern + `)(?: ([01]{1,16}))?\n\z`)

const great = 2147483647

// A second reading of Text, Parse, Line and Run.

func textAgain(c api.Config, l []api.Step) (string, api.Errno) {
	if len(l) > 1024 || len(c.Fast) > 16 {
		return "", api.ErrLong
	}
	out, good := "fleet", true
	number := func(n int64) string {
		good = good && n >= 0 && n <= great
		return fmt.Sprintf(" %d", n)
	}
	for _, n := range []int{c.Insts, c.Pages, c.Frames, c.Log} {
		out += number(int64(n))
	}
	for n, is := range c.Fast {
		if n == 0 {
			out += " "
		}
		out += map[bool]string{false: "0", true: "1"}[is]
	}
	lines := []string{out}
	for _, s := range l {
		f, ok := theForms[s.Kind]
		good = good && ok
		line, v := f.word, reflect.ValueOf(s)
		for k := range v.NumField() {
			name := v.Type().Field(k).Name
			good = good && (name == "Kind" || slices.Contains(f.fields, name) || v.Field(k).IsZero())
		}
		for _, name := range f.fields {
			if isText(name) {
				line += fmt.Sprintf(" =%x", v.FieldByName(name).String())
			} else {
				line += number(v.FieldByName(name).Int())
			}
		}
		lines = append(lines, line)
	}
	if !good {
		return "", api.ErrArg
	}
	return strings.Join(lines, "\n") + "\n", api.OK
}

// numberAgain is the number that digits are, if it isn't too great.
func numberAgain(w string) (int, bool) {
	n, ok := new(big.Int).SetString(w, 10)
	if !ok || n.Cmp(big.NewInt(great)) > 0 {
		return 0, false
	}
	return int(n.Int64()), true
}

func configAgain(line string) (api.Config, bool) {
	var c api.Config
	m := firstLine.FindStringSubmatch(line)
	if m == nil {
		return c, false
	}
	good := true
	for k, to := range []*int{&c.Insts, &c.Pages, &c.Frames, &c.Log} {
		n, ok := numberAgain(m[1+k])
		*to, good = n, good && ok
	}
	for _, b := range m[5] {
		c.Fast = append(c.Fast, b == '1')
	}
	return c, good
}

func stepAgain(line string) (api.Step, bool) {
	for k, f := range theForms {
		m := f.line.FindStringSubmatch(line)
		if m == nil {
			continue
		}
		s, good := api.Step{Kind: k}, true
		v := reflect.ValueOf(&s).Elem()
		for i, name := range f.fields {
			if isText(name) {
				var b []byte
				fmt.Sscanf(m[1+i], "=%x", &b)
				v.FieldByName(name).SetString(string(b))
			} else {
				n, ok := numberAgain(m[1+i])
				v.FieldByName(name).SetInt(int64(n))
				good = good && ok
			}
		}
		return s, good
	}
	return api.Step{}, false
}

func parseAgain(s string) (api.Config, []api.Step, int, api.Errno) {
	none := api.Config{}
	if len(s) > 65536 {
		return none, nil, 0, api.ErrLong
	}
	lines := strings.SplitAfter(s, "\n")
	if lines[len(lines)-1] == "" {
		lines = lines[:len(lines)-1]
	}
	if len(lines) == 0 {
		return none, nil, 0, api.ErrForm
	}
	c, ok := configAgain(lines[0])
	if !ok {
		return none, nil, 0, api.ErrForm
	}
	var l []api.Step
	for n, line := range lines[1:] {
		if n == 1024 {
			return none, nil, n + 1, api.ErrLong
		}
		st, ok := stepAgain(line)
		if !ok {
			return none, nil, n + 1, api.ErrForm
		}
		l = append(l, st)
	}
	return c, l, 0, api.OK
}

func lineAgain(a api.Answer) string {
	word := "bad"
	if a.Kind > 0 && int(a.Kind) <= len(strings.Fields(chapterReplies)) {
		word = strings.Fields(chapterReplies)[a.Kind-1]
	}
	line := fmt.Sprintf("%d %s %d", a.Step, word, uint64(a.Lsn))
	if word == "value" || word == "ok" && len(a.Value) > 0 {
		line += fmt.Sprintf(" =%x", a.Value)
	}
	if word == "pairs" {
		for _, p := range a.Pairs {
			line += fmt.Sprintf(" =%x =%x", p.Key, p.Value)
		}
	}
	return line
}

func linesAgain(l []api.Answer) string {
	s := ""
	for _, a := range l {
		s += lineAgain(a) + "\n"
	}
	return s
}

// runAgain is what a config and steps bring, in three parts: the steps' answers, those of the rounds, and what is told of the fleet at last.
func runAgain(c api.Config, l []api.Step, rounds int) (string, string, string, api.Errno) {
	f, e := fleet.New(c)
	if e != api.OK {
		return "", "", "", api.ErrArg
	}
	first, last := "", "busy\n"
	for _, s := range l {
		first += linesAgain(f.Do(s))
	}
	answers, idle := f.Calm(max(0, min(rounds, 1024)))
	if idle {
		last = "idle\n"
	}
	for _, p := range f.Map() {
		last += fmt.Sprintf("map =%x =%x\n", p.Key, p.Value)
	}
	return first, linesAgain(answers), last, api.OK
}

// What is wanted of the calls.

func wantText(t *testing.T, c api.Config, l []api.Step, want string, err api.Errno) {
	t.Helper()
	if s, e := play.Text(c, l); s != want || e != err {
		t.Fatalf("Text(%+v, %s):\n%.500q, %d\nwant\n%.500q, %d", c, short(l), s, e, want, err)
	}
}

func short(l []api.Step) string {
	if len(l) > 5 {
		return fmt.Sprintf("%+v .. (%d steps)", l[:5], len(l))
	}
	return fmt.Sprintf("%+v", l)
}

// holdsText holds Text against its second reading.
func holdsText(t *testing.T, c api.Config, l []api.Step) (string, api.Errno) {
	t.Helper()
	s, e := textAgain(c, l)
	wantText(t, c, l, s, e)
	return s, e
}

func sameConfig(a, b api.Config) bool {
	return a.Insts == b.Insts && a.Pages == b.Pages && a.Frames == b.Frames && a.Log == b.Log && slices.Equal(a.Fast, b.Fast)
}

func wantParse(t *testing.T, s string, c api.Config, l []api.Step, n int, err api.Errno) {
	t.Helper()
	gc, gl, gn, ge := play.Parse(s)
	if !sameConfig(gc, c) || !slices.Equal(gl, l) || gn != n || ge != err {
		t.Fatalf("Parse(%.300q):\n%+v, %s, %d, %d\nwant\n%+v, %s, %d, %d", s, gc, short(gl), gn, ge, c, short(l), n, err)
	}
}

// fails wants an error of Parse, and of Run, with a line's number and nothing else.
func fails(t *testing.T, s string, n int, err api.Errno) {
	t.Helper()
	wantParse(t, s, api.Config{}, nil, n, err)
	if c, l, _, _ := play.Parse(s); c.Fast != nil || len(l) != 0 {
		t.Fatalf("Parse(%.300q): %+v, %v beside an error", s, c, l)
	}
	wantRun(t, s, 3, "", n, err)
}

// holdsParse holds Parse against its second reading.
func holdsParse(t *testing.T, s string) (api.Config, []api.Step, api.Errno) {
	t.Helper()
	c, l, n, e := parseAgain(s)
	wantParse(t, s, c, l, n, e)
	return c, l, e
}

func wantRun(t *testing.T, s string, rounds int, want string, n int, err api.Errno) {
	t.Helper()
	if got, gn, ge := play.Run(s, rounds); got != want || gn != n || ge != err {
		t.Fatalf("Run(%.600q, %d):\n%.900s, %d, %d\nwant\n%.900s, %d, %d", s, rounds, got, gn, ge, want, n, err)
	}
}

// holdsRun holds Run of a script against its second reading, and tells that one's parts.
func holdsRun(t *testing.T, c api.Config, l []api.Step, rounds int) (string, string, string) {
	t.Helper()
	s, e := textAgain(c, l)
	if e != api.OK {
		t.Fatalf("no script of %+v, %s", c, short(l))
	}
	a, b, d, e := runAgain(c, l, rounds)
	wantRun(t, s, rounds, a+b+d, 0, e)
	return a, b, d
}

// ends fails, if something goes on for ever, or panics.
func ends(t *testing.T, what string, f func()) {
	t.Helper()
	done := make(chan any)
	go func() {
		defer func() { done <- recover() }()
		f()
	}()
	select {
	case p := <-done:
		if p != nil {
			t.Fatalf("%s: %v", what, p)
		}
	case <-time.After(5 * time.Minute):
		t.Fatalf("%s goes on for ever", what)
	}
}

// Drawn things.

func some[T any](r *rand.Rand, l []T) T { return l[r.Intn(len(l))] }

// drawnText is a text with any bytes.
func drawnText(r *rand.Rand) string {
	b := make([]byte, r.Intn(6))
	for n := range b {
		b[n] = byte(r.Intn(256))
	}
	return string(b)
}

// drawnNumber is a number that a script can have.
func drawnNumber(r *rand.Rand) int {
	switch r.Intn(4) {
	case 0:
		return some(r, []int{0, 1, 9, 10, 99, 100, great - 1, great})
	case 1:
		return r.Int() & great
	}
	return r.Intn(20)
}

func drawnConfig(r *rand.Rand) api.Config {
	c := api.Config{Insts: drawnNumber(r), Pages: drawnNumber(r), Frames: drawnNumber(r), Log: drawnNumber(r)}
	if r.Intn(2) == 0 {
		c.Fast = drawnFast(r, 16)
	}
	return c
}

func drawnFast(r *rand.Rand, most int) []bool {
	fast := make([]bool, r.Intn(most+1))
	for n := range fast {
		fast[n] = r.Intn(2) == 0
	}
	return fast
}

// drawnStep is a step that a script can have.
func drawnStep(r *rand.Rand) api.Step {
	s := api.Step{Kind: 1 + api.StepKind(r.Intn(int(api.StepCount)-1))}
	v := reflect.ValueOf(&s).Elem()
	for _, name := range theForms[s.Kind].fields {
		if isText(name) {
			v.FieldByName(name).SetString(drawnText(r))
		} else {
			v.FieldByName(name).SetInt(int64(drawnNumber(r)))
		}
	}
	return s
}

func drawnSteps(r *rand.Rand, most int) []api.Step {
	l := make([]api.Step, r.Intn(most+1))
	for n := range l {
		l[n] = drawnStep(r)
	}
	return l
}

// drawnLife is a fleet that there is, and steps of which many may be.
func drawnLife(r *rand.Rand, most int) (api.Config, []api.Step) {
	c := api.Config{Insts: 1 + r.Intn(3), Pages: 1 + r.Intn(4), Frames: 1 + r.Intn(3), Log: 64 * (8 + r.Intn(100))}
	c.Fast = drawnFast(r, c.Pages)
	l := make([]api.Step, r.Intn(most+1))
	for n := range l {
		l[n] = drawnDeed(r, c)
	}
	return c, l
}

// drawnDeed is a step in a fleet's life: more often one that goes on or that begins than one that crashes.
func drawnDeed(r *rand.Rand, c api.Config) api.Step {
	s := api.Step{Kind: 1 + api.StepKind(r.Intn(int(api.StepCount)-1))}
	switch r.Intn(20) {
	case 0, 1, 2, 3, 4, 5, 6:
		return api.Step{Kind: api.StepPick}
	case 7, 8, 9:
		s.Kind = api.StepBegin
	case 10, 11:
		s.Kind = some(r, []api.StepKind{api.StepGet, api.StepPut, api.StepInsert})
	}
	v := reflect.ValueOf(&s).Elem()
	for _, name := range theForms[s.Kind].fields {
		switch name {
		case "Inst":
			s.Inst = 1 + r.Intn(c.Insts)
		case "Sess", "N":
			v.FieldByName(name).SetInt(int64(r.Intn(3)))
		case "From":
			s.From = r.Intn(4)
		default:
			v.FieldByName(name).SetString(some(r, []string{"a", "b", "c", "d", "\x00\xff"}))
		}
	}
	if r.Intn(30) == 0 {
		s.Inst = drawnNumber(r)
	}
	return s
}
