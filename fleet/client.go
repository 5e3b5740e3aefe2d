package fleet

import (
	"strconv"

	"flotilla/act"
	"flotilla/api"
	"flotilla/page"
	"flotilla/table"
)

// stage is how far something is that a session does.
type stage int

const (
	asking  stage = iota // it waits for locks
	working              // it has them
	taking               // what was changed is taken back
	forcing              // what was changed is committed, when the log is forced
	ending               // the transaction is over, but for its locks
)

// job is a client's step that isn't answered yet.
type job struct {
	no    int // the step's number
	step  api.Step
	stage stage
	lacks int                      // the page without which it doesn't go on; -1: none
	read  [api.MaxPages]*page.Page // of a scan the pages as they were read
	mark  api.Lsn                  // what isn't taken back: what had been done up to here
	reply api.Reply                // what is told when the transaction is over
	own   api.Lsn                  // the transaction's number, if it commits
}

// session is a place of an instance for a transaction.
type session struct {
	txn  int     // 0: none
	last api.Lsn // of its last answer
	job  *job    // nil: it does nothing
}

// busy tells whether a session does something, but wait for locks.
func (i *instance) busy() bool {
	for _, x := range i.sessions {
		if x.job != nil && x.job.stage != asking {
			return true
		}
	}
	return false
}

// of is the session of a transaction.
func (i *instance) of(txn int) *session {
	for n := range i.sessions {
		if i.sessions[n].txn == txn {
			return &i.sessions[n]
		}
	}
	return nil
}

// serve does a client's step, or tells at once why not.
func (f *Fleet) serve(no int, s api.Step) {
	i := f.inst(s.Inst)
	if i == nil || s.Sess < 0 || s.Sess >= api.MaxSess {
		f.refuse(no, api.ReplyBad, 0)
		return
	}
	if !i.up {
		f.refuse(no, api.ReplyDown, 0)
		return
	}
	x := &i.sessions[s.Sess]
	if x.job != nil {
		f.refuse(no, api.ReplyBad, x.last) // its transaction may be over already: what is above that could be above others that came behind it
		return
	}
	x.job = &job{no: no, step: s, lacks: -1, reply: api.ReplyOK}
	if (x.txn == 0) != (s.Kind == api.StepBegin) || !fits(s) {
		f.reply(i, x, api.Answer{Kind: api.ReplyBad})
		return
	}
	f.start(i, x)
	f.run(i)
}

// fits tells whether a page can have what a step names.
func fits(s api.Step) bool {
	switch s.Kind {
	case api.StepPut, api.StepInsert:
		return act.May(api.Act{Kind: api.ActInsert, Key: s.Key, New: s.Value})
	case api.StepGet, api.StepDelete:
		return act.May(api.Act{Kind: api.ActInsert, Key: s.Key})
	}
	return true
}

// refuse answers a step that isn't begun.
func (f *Fleet) refuse(no int, k api.Reply, l api.Lsn) {
	f.answers = append(f.answers, api.Answer{Step: no, Kind: k, Lsn: l})
}

// reply answers what a session does. If the answer has no LSN, it gets one above all that the instance has seen.
func (f *Fleet) reply(i *instance, x *session, a api.Answer) {
	a.Step = x.job.no
	if a.Lsn == 0 {
		a.Lsn = i.tick()
	}
	x.last, x.job = a.Lsn, nil
	f.answers = append(f.answers, a)
}

// start begins a step that may be.
func (f *Fleet) start(i *instance, x *session) {
	switch s := x.job.step; s.Kind {
	case api.StepBegin:
		f.begin(i, x)
	case api.StepSave:
		f.save(i, x)
	case api.StepBack:
		f.backTo(i, x)
	case api.StepAbort:
		i.abort(x)
	case api.StepCommit:
		f.commit(i, x)
	default:
		f.send(i, api.Msg{Kind: msgAsk, Txn: x.txn, Wants: table.Wants(s.Kind, s.Key, f.pages)})
	}
}

// begin lets a transaction begin. It comes behind all that others were told to have committed, which the manager has seen.
func (f *Fleet) begin(i *instance, x *session) {
	i.clock.See(f.seen)
	x.txn = i.open()
	f.reply(i, x, api.Answer{Kind: api.ReplyOK})
}

// save makes a savepoint.
func (f *Fleet) save(i *instance, x *session) {
	n, e := i.txns.Save(x.txn)
	if e != api.OK {
		f.reply(i, x, api.Answer{Kind: api.ReplyBad})
		return
	}
	if !i.put(i.record(api.RecSave, x.txn)) {
		i.txns.Drop(x.txn, n)
		f.reply(i, x, api.Answer{Kind: api.ReplyLogFull})
		return
	}
	f.reply(i, x, api.Answer{Kind: api.ReplyOK, Value: strconv.Itoa(n)})
}

// backTo begins to go back to a savepoint.
func (f *Fleet) backTo(i *instance, x *session) {
	mark, e := i.txns.Mark(x.txn, x.job.step.N)
	if e != api.OK {
		f.reply(i, x, api.Answer{Kind: api.ReplyBad})
		return
	}
	x.job.stage, x.job.mark = taking, mark
}

// abort begins to take all back.
func (i *instance) abort(x *session) {
	if i.wrote(x.txn) {
		i.spend(i.record(api.RecAbort, x.txn))
	}
	x.job.stage, x.job.mark = taking, 0
}

// commit gives a transaction its number. One that changed nothing has nothing to wait for.
func (f *Fleet) commit(i *instance, x *session) {
	if !i.wrote(x.txn) {
		x.job.own = i.tick()
		f.close(i, x)
		return
	}
	r := i.record(api.RecCommit, x.txn)
	x.job.own = r.Lsn
	i.spend(r)
	i.press()
	x.job.stage = forcing
}

// goOn lets a session go on, as far as it can.
func (f *Fleet) goOn(i *instance, x *session) {
	if x.job == nil {
		return
	}
	x.job.lacks = -1
	switch x.job.stage {
	case working:
		f.work(i, x)
	case taking:
		f.takeBack(i, x)
	case forcing:
		if x.job.own <= i.log.Stable() {
			f.close(i, x)
		} else {
			i.press()
		}
	}
}

// granted has a session go on, which has its locks.
func (f *Fleet) granted(i *instance, m api.Msg) {
	if x := i.of(m.Txn); x != nil && x.job != nil {
		x.job.stage = working
	}
}

// victim takes back a transaction that waits for a lock no more.
func (f *Fleet) victim(i *instance, m api.Msg) {
	if x := i.of(m.Txn); x != nil && x.job != nil {
		x.job.reply = api.ReplyVictim
		i.abort(x)
	}
}

// work does a step on its page, or pages, if they are here.
func (f *Fleet) work(i *instance, x *session) {
	s := x.job.step
	if s.Kind == api.StepScan {
		f.scan(i, x)
		return
	}
	id := table.Home(s.Key, f.pages)
	p := i.pool.Get(id)
	if p == nil {
		x.job.lacks = id
		return
	}
	if s.Kind == api.StepGet {
		value, kind := table.Get(p, s.Key)
		f.reply(i, x, api.Answer{Kind: kind, Value: value})
		return
	}
	a, kind := table.Plan(p, s.Kind, s.Key, s.Value)
	if kind == api.ReplyOK && !i.change(p, x.txn, a) {
		kind = api.ReplyLogFull
	}
	f.reply(i, x, api.Answer{Kind: kind})
}

// scan reads what is here of the pages that weren't read yet: they needn't be here at one time, as nobody may change them meanwhile.
func (f *Fleet) scan(i *instance, x *session) {
	j := x.job
	for id := range f.pages {
		if j.read[id] != nil {
			continue
		}
		j.read[id] = i.pool.Get(id)
		if j.read[id] == nil && j.lacks < 0 {
			j.lacks = id
		}
	}
	if j.lacks < 0 {
		f.reply(i, x, api.Answer{Kind: api.ReplyPairs, Pairs: table.Range(j.read[:], j.step.Key, j.step.Value)})
	}
}

// takeBack takes back what was changed behind the mark, as far as pages are here.
func (f *Fleet) takeBack(i *instance, x *session) {
	j := x.job
	for next := i.txns.Next(x.txn); next > j.mark; next = i.txns.Next(x.txn) {
		r, _ := i.log.Find(next)
		p := i.pool.Get(r.Page)
		if p == nil {
			j.lacks = r.Page
			return
		}
		i.undo(p, r)
	}
	if j.step.Kind != api.StepBack {
		f.close(i, x)
		return
	}
	i.txns.Drop(x.txn, j.step.N+1)
	f.reply(i, x, api.Answer{Kind: api.ReplyOK})
}

// close has a transaction be over, and its locks let go. The client is told behind that: so the manager has seen whatever LSN is told of one that is over.
func (f *Fleet) close(i *instance, x *session) {
	if i.wrote(x.txn) {
		i.spend(i.record(api.RecEnd, x.txn))
	}
	i.txns.Gone(x.txn)
	x.job.stage = ending
	f.send(i, api.Msg{Kind: msgEnd, Txn: x.txn})
}

// over tells a client that its transaction is.
func (f *Fleet) over(i *instance, m api.Msg) {
	x := i.of(m.Txn)
	if x == nil || x.job == nil {
		return
	}
	x.txn = 0
	f.reply(i, x, api.Answer{Kind: x.job.reply, Lsn: x.job.own})
}
