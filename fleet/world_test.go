package fleet_test

import (
	"fmt"
	"math/rand"
	"testing"

	"flotilla/act"
	"flotilla/api"
	"flotilla/fleet"
)

// A world is a fleet, and what its clients know of it: their transactions, what they asked for and were told.

// fate is what became of a transaction.
type fate int

const (
	open      fate = iota // it goes on
	committed             // its client was told so
	backed                // its client was told that it was taken back
	doubtful              // its client asked for a commit, and was told that the instance crashed
	gone                  // its instance crashed otherwise
)

// said is a step of a client and its answer.
type said struct {
	step    api.Step
	no      int
	answer  api.Answer
	refused bool // it was told at once that it may not be
}

// deal is a transaction, as its client knows it.
type deal struct {
	inst, sess int
	began      int // when
	over       int // when it was told that it committed
	said       []said
	was        bool // told anything by a Get, Put, Insert, Delete or Scan
	fate       fate
	own        api.Lsn // of its commit
}

// last is the LSN of the last answer ahead of the one that ended it.
func (d *deal) last() api.Lsn { return d.said[len(d.said)-1].answer.Lsn }

// place is where it stands among the others.
func (d *deal) place() api.Lsn {
	if d.fate == committed {
		return d.own
	}
	return d.last()
}

// seat is a session, as its client knows it.
type seat struct {
	deal    *deal
	waits   bool // for an answer
	waiting api.Step
	no      int
}

type world struct {
	t     *testing.T
	c     api.Config
	f     *fleet.Fleet
	now   int
	steps []api.Step
	calms []int // behind how many steps it was calmed
	seats [api.MaxInst + 1][api.MaxSess]seat
	deals []*deal
	owed  map[int]*seat // by step's number who waits for the answer
	disk  map[int]api.Lsn
	stood [api.MaxInst + 1][]api.Record
	heard map[api.Reply]int
}

func newWorld(t *testing.T, c api.Config) *world {
	t.Helper()
	return &world{t: t, c: c, f: made(t, c), owed: map[int]*seat{}, disk: map[int]api.Lsn{}, heard: map[api.Reply]int{}}
}

func (w *world) fail(what ...any) {
	w.t.Helper()
	s := ""
	for n, x := range w.steps {
		s += fmt.Sprintf("  %d %+v\n", n, x)
	}
	w.t.Fatalf("%s%+v\n%s(calmed behind %v)", fmt.Sprintln(what...), w.c, s, w.calms)
}

func isClients(k api.StepKind) bool { return k >= api.StepBegin && k <= api.StepCommit }

func isTold(k api.StepKind) bool { return k >= api.StepGet && k <= api.StepScan }

// atOnce is what a client's step is told at once; 0: it isn't (or not for sure).
func (w *world) atOnce(s api.Step) api.Reply {
	if s.Inst < 1 || s.Inst > w.c.Insts || s.Sess < 0 || s.Sess >= api.MaxSess {
		return api.ReplyBad
	}
	if !w.f.Up(s.Inst) {
		return api.ReplyDown
	}
	x := &w.seats[s.Inst][s.Sess]
	if x.waits || (x.deal == nil) != (s.Kind == api.StepBegin) {
		return api.ReplyBad
	}
	switch s.Kind {
	case api.StepBegin:
		return api.ReplyOK
	case api.StepGet, api.StepDelete:
		if !act.May(api.Act{Kind: api.ActInsert, Key: s.Key}) {
			return api.ReplyBad
		}
	case api.StepPut, api.StepInsert:
		if !act.May(api.Act{Kind: api.ActInsert, Key: s.Key, New: s.Value}) {
			return api.ReplyBad
		}
	}
	return 0
}

// do does a step, and takes its answers in.
func (w *world) do(s api.Step) {
	w.t.Helper()
	no := len(w.steps)
	w.steps = append(w.steps, s)
	w.now++
	if isClients(s.Kind) {
		w.ask(no, s)
		return
	}
	up, lost := w.states()
	w.take(w.f.Do(s))
	w.follow(s, up, lost)
	w.ahead()
}

// ask does a client's step.
func (w *world) ask(no int, s api.Step) {
	w.t.Helper()
	want := w.atOnce(s)
	if want == 0 {
		x := &w.seats[s.Inst][s.Sess]
		x.waits, x.waiting, x.no = true, s, no
		w.owed[no] = x
		w.take(w.f.Do(s))
		return
	}
	l := w.f.Do(s)
	if len(l) == 0 || l[0].Step != no || l[0].Kind != want || l[0].Value != "" || l[0].Pairs != nil {
		w.fail("step", no, s, "is told", l, "want at once", want)
	}
	w.note(no, s, l[0])
	w.take(l[1:])
	w.ahead()
}

// note notes what was told at once.
func (w *world) note(no int, s api.Step, a api.Answer) {
	if a.Kind == api.ReplyDown || s.Inst < 1 || s.Inst > w.c.Insts || s.Sess < 0 || s.Sess >= api.MaxSess {
		return
	}
	x := &w.seats[s.Inst][s.Sess]
	if a.Kind == api.ReplyOK {
		x.deal = &deal{inst: s.Inst, sess: s.Sess, began: w.now}
		w.deals = append(w.deals, x.deal)
	}
	if x.deal != nil {
		x.deal.said = append(x.deal.said, said{s, no, a, a.Kind == api.ReplyBad})
		x.deal.was = x.deal.was || isTold(s.Kind)
	}
}

// take takes answers in that came to those who waited.
func (w *world) take(l []api.Answer) {
	w.t.Helper()
	for _, a := range l {
		w.now++
		x := w.owed[a.Step]
		if x == nil {
			w.fail("nobody waits for", a)
		}
		delete(w.owed, a.Step)
		w.heard[a.Kind]++
		w.settle(x, a)
	}
}

// settle has a client be told something.
func (w *world) settle(x *seat, a api.Answer) {
	w.t.Helper()
	s, d := x.waiting, x.deal
	x.waits = false
	d.was = d.was || isTold(s.Kind)
	switch {
	case a.Kind == api.ReplyDown && s.Kind == api.StepCommit:
		d.fate, x.deal = doubtful, nil
	case a.Kind == api.ReplyDown:
		d.fate, x.deal = gone, nil
	case a.Kind == api.ReplyVictim && s.Kind != api.StepCommit && s.Kind != api.StepAbort && s.Kind != api.StepBack:
		d.fate, x.deal = backed, nil
	case a.Kind == api.ReplyOK && s.Kind == api.StepAbort:
		d.fate, x.deal = backed, nil
	case a.Kind == api.ReplyOK && s.Kind == api.StepCommit:
		d.fate, d.own, d.over, x.deal = committed, a.Lsn, w.now, nil
	case s.Kind == api.StepAbort || s.Kind == api.StepCommit:
		w.fail("step", x.no, s, "is told", a)
	default:
		d.said = append(d.said, said{s, x.no, a, false})
	}
}

// states is who is up, and who is lost.
func (w *world) states() (up, lost [api.MaxInst + 1]bool) {
	for n := range w.c.Insts + 1 {
		up[n], lost[n] = w.f.Up(n), w.f.Lost(n)
	}
	return up, lost
}

// follow holds who is up and who is lost against what was, behind a step that no client takes.
func (w *world) follow(s api.Step, up, lost [api.MaxInst + 1]bool) {
	w.t.Helper()
	is := s.Inst >= 1 && s.Inst <= w.c.Insts
	switch {
	case s.Kind == api.StepCrash && is && up[s.Inst]:
		up[s.Inst], lost[s.Inst] = false, true
	case s.Kind == api.StepRestart && is && !up[s.Inst] && (s.From <= 0 || w.f.Up(s.Inst)):
		up[s.Inst], lost[s.Inst] = true, false
	case s.Kind == api.StepRecover && is && up[s.Inst] && s.N >= 1 && s.N <= w.c.Insts && lost[s.N]:
		if s.From <= 0 || !w.f.Lost(s.N) {
			lost[s.N] = false
		} else { // it was broken off
			up[s.Inst], lost[s.Inst] = false, true
		}
	}
	isUp, isLost := w.states()
	if isUp != up || isLost != lost {
		w.fail("behind", s, "up are", isUp, "want", up, "lost", isLost, "want", lost)
	}
	for n := range w.c.Insts + 1 {
		if !isUp[n] {
			w.empty(n)
		}
	}
}

// empty has all transactions of an instance be gone that crashed.
func (w *world) empty(inst int) {
	w.t.Helper()
	for n := range w.seats[inst] {
		x := &w.seats[inst][n]
		if x.waits {
			w.fail("no answer to", x.no, x.waiting, "when the instance crashed")
		}
		if x.deal != nil {
			x.deal.fate, x.deal = gone, nil
		}
	}
}

// calm lets all go on for so many rounds, each second time round by round, with a look at each of them.
func (w *world) calm(rounds int) bool {
	w.t.Helper()
	w.now++
	w.calms = append(w.calms, len(w.steps))
	for n := 0; len(w.calms)%2 == 0 && n < min(rounds, 2000) && !w.f.Idle(); n++ {
		l, _ := w.f.Calm(1)
		w.take(l)
		w.ahead()
		rounds--
	}
	l, idle := w.f.Calm(rounds)
	w.take(l)
	w.ahead()
	if idle != w.f.Idle() {
		w.fail("Calm tells idle:", idle)
	}
	return idle
}

// most is how many rounds Calm may need (21.10).
func (w *world) most() int { return 200 * (1 + len(w.steps)) }

// calmly lets all go on to the end, which must come in time, if nobody is lost (21.10).
func (w *world) calmly() {
	w.t.Helper()
	for n := 1; n <= w.c.Insts; n++ {
		if w.f.Lost(n) {
			w.calm(w.most())
			return
		}
	}
	if !w.calm(w.most()) {
		w.fail("not idle behind", w.most(), "rounds")
	}
	waits, free := 0, 0
	for n := range w.seats {
		for _, x := range w.seats[n] {
			if x.waits {
				waits++
			} else if x.deal != nil {
				free++
			}
		}
	}
	if waits > 0 && free == 0 {
		w.fail("all wait")
	}
}

// mendAll has all be up, or recovered.
func (w *world) mendAll(r *rand.Rand) {
	w.t.Helper()
	for n := 1; n <= w.c.Insts; n++ {
		if w.f.Up(n) {
			continue
		}
		by := 1 + r.Intn(w.c.Insts)
		if w.f.Up(by) && w.f.Lost(n) && r.Intn(2) == 0 {
			w.do(recovery(by, n, 0))
			continue
		}
		w.do(restart(n, 0))
	}
}

// end brings all to its end: nothing is lost, and no session has a transaction.
func (w *world) end(r *rand.Rand) {
	w.t.Helper()
	w.mendAll(r)
	w.endBy(func() bool { return r.Intn(3) == 0 })
}

// endPlainly is end with restarts and commits alone.
func (w *world) endPlainly() {
	w.t.Helper()
	for n := 1; n <= w.c.Insts; n++ {
		w.do(restart(n, 0))
	}
	w.endBy(func() bool { return false })
}

// endBy ends all transactions, such as aborts tells by an abort.
func (w *world) endBy(aborts func() bool) {
	w.t.Helper()
	w.calmly()
	for w.endFree(aborts) {
		w.calmly()
	}
	if len(w.owed) > 0 {
		w.fail("no answers to", len(w.owed))
	}
}

// endFree ends the transactions of those who do nothing, and tells whether there were any.
func (w *world) endFree(aborts func() bool) bool {
	w.t.Helper()
	did := false
	for n := range w.seats {
		for k := range w.seats[n] {
			x := &w.seats[n][k]
			if x.deal == nil || x.waits {
				continue
			}
			did = true
			if aborts() {
				w.do(abort(n, k))
			} else {
				w.do(commit(n, k))
			}
		}
	}
	return did
}

// ahead holds each page of the disk that was written since the last time against the logs (21.11).
func (w *world) ahead() {
	w.t.Helper()
	for id := range w.c.Pages {
		if l := w.f.Disk(id).Lsn(); l != w.disk[id] {
			if l < w.disk[id] || !w.stands(l) {
				w.fail("the page", id, "lies on the disk with", l, "behind", w.disk[id])
			}
			w.disk[id] = l
		}
	}
}

// stands tells whether a record with an LSN stands on a log.
func (w *world) stands(l api.Lsn) bool {
	for n := 1; n <= w.c.Insts; n++ {
		for _, r := range w.f.Log(n) {
			if r.Lsn == l {
				return true
			}
		}
	}
	return false
}

// logs holds the logs against what they were (21.11).
func (w *world) logs() {
	w.t.Helper()
	for n := 1; n <= w.c.Insts; n++ {
		l := w.f.Log(n)
		if len(l) < len(w.stood[n]) || !same(l[:len(w.stood[n]):len(w.stood[n])], w.stood[n]) && len(w.stood[n]) > 0 {
			w.fail("the log", n, "had", w.stood[n], "and has", l)
		}
		for i := range l {
			if i > 0 && l[i].Lsn <= l[i-1].Lsn {
				w.fail("the log", n, "doesn't rise:", l)
			}
		}
		w.stood[n] = l
	}
	for id, l := range w.disk {
		if l != 0 && !w.stands(l) {
			w.fail("the page", id, "lies there with", l, "which no log has any more")
		}
	}
}
