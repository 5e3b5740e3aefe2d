package fleet_test

import (
	"fmt"
	"maps"
	"reflect"
	"slices"
	"testing"
	"time"

	"flotilla/api"
	"flotilla/fleet"
	"flotilla/table"
)

// made is a fleet that there is.
func made(t *testing.T, c api.Config) *fleet.Fleet {
	t.Helper()
	f, e := fleet.New(c)
	if e != api.OK || f == nil {
		t.Fatalf("New(%+v): %v, %d", c, f, e)
	}
	return f
}

// one is a config of so many instances and pages, with a log that doesn't get full.
func one(insts, pages int) api.Config {
	return api.Config{Insts: insts, Pages: pages, Frames: 2, Log: api.MaxLog}
}

// Steps by short names.

func begin(inst, sess int) api.Step {
	return api.Step{Kind: api.StepBegin, Inst: inst, Sess: sess}
}

func get(inst, sess int, key string) api.Step {
	return api.Step{Kind: api.StepGet, Inst: inst, Sess: sess, Key: key}
}

func put(inst, sess int, key, value string) api.Step {
	return api.Step{Kind: api.StepPut, Inst: inst, Sess: sess, Key: key, Value: value}
}

func insert(inst, sess int, key, value string) api.Step {
	return api.Step{Kind: api.StepInsert, Inst: inst, Sess: sess, Key: key, Value: value}
}

func remove(inst, sess int, key string) api.Step {
	return api.Step{Kind: api.StepDelete, Inst: inst, Sess: sess, Key: key}
}

func scan(inst, sess int, from, to string) api.Step {
	return api.Step{Kind: api.StepScan, Inst: inst, Sess: sess, Key: from, Value: to}
}

func save(inst, sess int) api.Step {
	return api.Step{Kind: api.StepSave, Inst: inst, Sess: sess}
}

func back(inst, sess, n int) api.Step {
	return api.Step{Kind: api.StepBack, Inst: inst, Sess: sess, N: n}
}

func abort(inst, sess int) api.Step {
	return api.Step{Kind: api.StepAbort, Inst: inst, Sess: sess}
}

func commit(inst, sess int) api.Step {
	return api.Step{Kind: api.StepCommit, Inst: inst, Sess: sess}
}

func check(inst int) api.Step { return api.Step{Kind: api.StepCheck, Inst: inst} }

func pick(inst int) api.Step { return api.Step{Kind: api.StepPick, Inst: inst} }

func deliver(from, to int) api.Step {
	return api.Step{Kind: api.StepDeliver, Inst: to, From: from}
}

func crash(inst, sectors int) api.Step {
	return api.Step{Kind: api.StepCrash, Inst: inst, N: sectors}
}

func restart(inst, from int) api.Step {
	return api.Step{Kind: api.StepRestart, Inst: inst, From: from}
}

func recovery(inst, other, from int) api.Step {
	return api.Step{Kind: api.StepRecover, Inst: inst, N: other, From: from}
}

func clean(inst, page int) api.Step {
	return api.Step{Kind: api.StepClean, Inst: inst, N: page}
}

// What is wanted of answers.

func kinds(l []api.Answer) []api.Reply {
	var all []api.Reply
	for _, a := range l {
		all = append(all, a.Kind)
	}
	return all
}

func wantKinds(t *testing.T, what string, l []api.Answer, want ...api.Reply) {
	t.Helper()
	if got := kinds(l); !slices.Equal(got, want) {
		t.Fatalf("%s: answers %v, want %v", what, l, want)
	}
}

// calm lets all go on till it is idle.
func calm(t *testing.T, f *fleet.Fleet) []api.Answer {
	t.Helper()
	l, idle := f.Calm(10000)
	if !idle || !f.Idle() {
		t.Fatalf("not calm; %v", l)
	}
	return l
}

// does does steps, each till it is calm, and tells the answers.
func does(t *testing.T, f *fleet.Fleet, steps ...api.Step) []api.Answer {
	t.Helper()
	var all []api.Answer
	for _, s := range steps {
		all = append(all, f.Do(s)...)
		all = append(all, calm(t, f)...)
	}
	return all
}

// okay does steps, each of which is answered ReplyOK, if it is a client's.
func okay(t *testing.T, f *fleet.Fleet, steps ...api.Step) []api.Answer {
	t.Helper()
	l := does(t, f, steps...)
	for _, a := range l {
		if a.Kind != api.ReplyOK {
			t.Fatalf("of %v: %v", steps, l)
		}
	}
	return l
}

// told does a step till it is calm: its one answer.
func told(t *testing.T, f *fleet.Fleet, s api.Step) api.Answer {
	t.Helper()
	l := does(t, f, s)
	if len(l) != 1 {
		t.Fatalf("%v: %d answers: %v", s, len(l), l)
	}
	return l[0]
}

// wantTold does a step till it is calm, and holds its answer's kind against what is wanted.
func wantTold(t *testing.T, f *fleet.Fleet, s api.Step, want api.Reply) api.Answer {
	t.Helper()
	a := told(t, f, s)
	if a.Kind != want {
		t.Fatalf("%v: %v, want kind %d", s, a, want)
	}
	return a
}

func wantMap(t *testing.T, f *fleet.Fleet, want ...api.Pair) {
	t.Helper()
	if got := f.Map(); !slices.Equal(got, want) {
		t.Fatalf("Map: %q, want %q", got, want)
	}
}

// everything is what is told of a fleet beside its answers.
func everything(f *fleet.Fleet, c api.Config) string {
	s := fmt.Sprint(f.Idle(), f.Map())
	for n := 0; n <= c.Insts+1; n++ {
		s += fmt.Sprint(n, f.Up(n), f.Lost(n), f.Log(n))
	}
	for id := -1; id <= c.Pages; id++ {
		s += fmt.Sprint(id, f.Owner(id), f.Disk(id).Bytes())
	}
	return s
}

// ends fails, if something goes on for ever, and tells whether it panicked.
func ends(t *testing.T, what string, f func()) {
	t.Helper()
	done := make(chan any)
	go func() {
		defer func() { done <- recover() }()
		f()
	}()
	select {
	case p := <-done:
		if p != nil {
			t.Fatalf("%s: %v", what, p)
		}
	case <-time.After(5 * time.Minute):
		t.Fatalf("%s goes on for ever", what)
	}
}

func same(a, b any) bool { return reflect.DeepEqual(a, b) }

// wantPairs is wantMap of keys and values in any order.
func wantPairs(t *testing.T, f *fleet.Fleet, want map[string]string) {
	t.Helper()
	var l []api.Pair
	for _, k := range slices.Sorted(maps.Keys(want)) {
		l = append(l, api.Pair{Key: k, Value: want[k]})
	}
	wantMap(t, f, l...)
}

// keysOn is so many keys that are at home on a page.
func keysOn(page, pages, n int) []string {
	var l []string
	for i := 0; len(l) < n; i++ {
		if k := fmt.Sprintf("k%02d", i); table.Home(k, pages) == page {
			l = append(l, k)
		}
	}
	return l
}

func keyOn(page, pages int) string { return keysOn(page, pages, 1)[0] }
