package fleet

import (
	"maps"
	"slices"

	"flotilla/api"
	"flotilla/lock"
	"flotilla/lsn"
	"flotilla/mend"
	"flotilla/merge"
	"flotilla/wal"
)

// crash has an instance be down, and so many sectors of what its log was writing be written.
func (f *Fleet) crash(i *instance, sectors int) {
	i.device.Crash(i.hand(), sectors)
	for _, x := range i.sessions {
		if x.job != nil {
			f.refuse(x.job.no, api.ReplyDown, 0)
		}
	}
	f.see(i.now()) // nobody is told its LSNs once more
	i.memory, i.up, i.lost = memory{}, false, true
	f.net.Cut(i.no)
	for _, id := range f.book.Fail(i.no) {
		f.lost[id] = i.no
	}
	f.forget(i)
}

// forget has an instance's transactions wait for no locks. Those that they have they keep: what they changed isn't taken back yet.
func (f *Fleet) forget(i *instance) {
	var got []lock.Grant
	for _, txn := range f.txnsOf(i) {
		delete(f.asked, txn)
		got = append(got, f.locks.Cancel(txn)...)
	}
	f.let(got) // behind all of that: none of them may be told anything any more
}

// txnsOf is an instance's transactions that have locks or wait for one.
func (f *Fleet) txnsOf(i *instance) []int {
	return slices.DeleteFunc(f.locks.Txns(), func(txn int) bool { return home(txn) != i.no })
}

// quota is how many writes a recovery may do.
type quota struct {
	all  bool
	left int
}

// upTo is the quota of a recovery that is broken off at its write From.
func upTo(from int) *quota { return &quota{all: from <= 0, left: from - 1} }

// take tells whether one write more may be done.
func (q *quota) take() bool {
	q.left--
	return q.all || q.left >= 0
}

// restart has an instance be up again. If its recovery is broken off, it stays as it is.
func (f *Fleet) restart(i *instance, from int) {
	if !i.lost || f.recovered(i, upTo(from)) {
		f.boot(i)
	}
}

// recovers has an instance recover another one, and crash, if that is broken off.
func (f *Fleet) recovers(i *instance, other, from int) {
	x := f.inst(other)
	if x == nil || !x.lost {
		return
	}
	if !f.recovered(x, upTo(from)) {
		f.crash(i, 0)
	}
}

// recovered does what a crash left to be done: the log gets the records that take back what didn't commit, pages what they lack; and then what others wait for goes on. It tells whether all was done.
func (f *Fleet) recovered(i *instance, q *quota) bool {
	if !f.mendLog(i, q) || !f.mendPages(i, q) {
		return false
	}
	i.lost = false
	for _, id := range slices.Sorted(maps.Keys(f.lost)) {
		if f.lost[id] == i.no {
			delete(f.lost, id)
			orders, _ := f.book.Mend(id)
			f.obey(orders, api.Msg{})
		}
	}
	for _, txn := range f.txnsOf(i) {
		f.let(f.locks.Free(txn))
	}
	return true
}

// logs is the records that stand on all logs, rising.
func (f *Fleet) logs() []api.Record {
	var logs [][]api.Record
	for _, i := range f.insts {
		logs = append(logs, wal.Read(i.device))
	}
	all, _ := merge.Merge(logs)
	return all
}

// mendLog lays into an instance's log what takes back what didn't commit. There is room: it was kept.
func (f *Fleet) mendLog(i *instance, q *quota) bool {
	clock, _ := lsn.New(i.hand())
	clock.See(f.seen)
	log, _ := wal.Open(i.device, i.hand())
	back, _ := mend.Back(log.Records(), clock)
	for _, r := range back {
		log.Append(r)
	}
	for log.Force(); log.Flying(); log.Done() {
		if !q.take() {
			i.device.Crash(i.hand(), 0)
			return false
		}
	}
	f.see(log.Last())
	return true
}

// mendPages writes the pages that an instance lost, if they lack something of what all logs tell, and those that are nobody's, if they lack something of what its own log tells: they were written when they went, and what it takes back may have been done to them. Others' are left alone.
func (f *Fleet) mendPages(i *instance, q *quota) bool {
	all, own := f.logs(), wal.Read(i.device)
	for id := range f.pages {
		var l []api.Record
		switch no, lost := f.lost[id]; {
		case lost && no == i.no:
			l = all
		case !lost && f.book.Owner(id) == 0:
			l = own
		}
		p := f.Disk(id)
		if redone(p, l...) == 0 {
			continue
		}
		if !q.take() {
			return false
		}
		f.disk.Lay(p)
	}
	return true
}
