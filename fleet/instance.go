package fleet

import (
	"cmp"
	"maps"
	"slices"

	"flotilla/api"
	"flotilla/chain"
	"flotilla/lsn"
	"flotilla/page"
	"flotilla/pool"
	"flotilla/rec"
	"flotilla/stable"
	"flotilla/wal"
)

// way is how a page goes that an instance hands over.
type way int

const (
	written way = iota
	asItIs      // if the disk lacks something of it
)

// memory is what an instance loses by a crash.
type memory struct {
	clock    *lsn.Clock
	log      *wal.Log
	pool     *pool.Pool
	here     map[int]*page.Page // the pool's pages: who looks at one here doesn't use it
	txns     *chain.Table
	sessions [api.MaxSess]session
	begun    int              // what the next transaction's number is made of
	asked    map[int]struct{} // pages that the manager was asked for; each has a frame kept free
	called   map[int]way      // pages that are to be handed over
	unclean  map[int]struct{} // pages that are to be written
	due      api.Lsn          // up to here the log is to be forced
}

// instance is its memory, and what it has beside.
type instance struct {
	memory
	no       int
	device   *stable.Device // of its log
	up, lost bool
}

func newInstance(no, log int) *instance {
	device, _ := stable.New(log)
	return &instance{no: no, device: device}
}

// hand is the one with which an instance's log is written, and the number that stands in its LSNs.
func (i *instance) hand() int { return i.no - 1 }

// boot has an instance be up, with what stands on its log and nothing else.
func (f *Fleet) boot(i *instance) {
	log, _ := wal.Open(i.device, i.hand())
	clock, _ := lsn.New(i.hand())
	clock.See(f.seen)
	pages, _ := pool.New(f.frames, store{f.disk, log})
	i.memory = memory{
		clock: clock, log: log, pool: pages, here: map[int]*page.Page{}, txns: chain.New(), begun: begun(log.Records()),
		asked: map[int]struct{}{}, called: map[int]way{}, unclean: map[int]struct{}{},
	}
	i.up = true
}

// Numbers of transactions are made of a number that rises, and their instance, so that no two instances have the same one.

// home is the instance of a transaction.
func home(txn int) int { return (txn-1)%api.MaxInst + 1 }

// begun is what a number is made of that none of a log's transactions has.
func begun(log []api.Record) int {
	n := 0
	for _, r := range log {
		if r.Txn > 0 {
			n = max(n, (r.Txn-1)/api.MaxInst+1)
		}
	}
	return n
}

// open lets a transaction begin: its number. When all have been used, the first ones are used again: they are over long since.
func (i *instance) open() int {
	for {
		txn := i.begun%(api.MaxTxn/api.MaxInst)*api.MaxInst + i.no
		i.begun++
		if i.txns.Open(txn) == api.OK {
			return txn
		}
	}
}

// tick is the next LSN.
func (i *instance) tick() api.Lsn {
	l, _ := i.clock.Tick()
	return l
}

// now is the LSN up to where the clock is.
func (i *instance) now() api.Lsn {
	l, _ := lsn.Make(i.clock.Now(), i.hand())
	return l
}

// send sends a message to the manager.
func (f *Fleet) send(i *instance, m api.Msg) {
	if m.Body == "" {
		m.Lsn = i.now()
	}
	f.net.Send(i.no, 0, m)
}

// record is a transaction's next one.
func (i *instance) record(k api.Kind, txn int) api.Record {
	row, _ := i.txns.Row(txn)
	return api.Record{Kind: k, Lsn: i.tick(), Txn: txn, Prev: row.Last}
}

// wrote tells whether a transaction has a record.
func (i *instance) wrote(txn int) bool {
	row, _ := i.txns.Row(txn)
	return row.Last != 0
}

// put lays a transaction's record into the log, and keeps what is needed to take it back; false: there is no room for both.
func (i *instance) put(r api.Record) bool {
	need := i.txns.Need(r)
	if rec.Size(r)+need > i.log.Room() {
		return false
	}
	i.log.Append(r)
	i.log.Keep(need)
	i.txns.Note(r)
	return true
}

// spend lays a record into the log for which room was kept.
func (i *instance) spend(r api.Record) {
	kept := i.txns.Kept(r.Txn)
	i.log.Spend(r)
	i.txns.Note(r)
	i.log.Drop(kept - rec.Size(r) - i.txns.Kept(r.Txn))
}

// press has all of the log be forced.
func (i *instance) press() { i.due = i.log.Last() }

// run lets an instance go on, as far as it can by itself.
func (f *Fleet) run(i *instance) {
	for n := range i.sessions {
		f.goOn(i, &i.sessions[n])
	}
	i.cleanAll()
	f.handOver(i)
	f.fetch(i)
	if i.due > i.log.Stable() {
		i.log.Force()
	}
}

// clean writes a page as soon as it may be.
func (f *Fleet) clean(i *instance, id int) {
	if i.here[id] == nil {
		return
	}
	i.unclean[id] = struct{}{}
	f.run(i)
}

func (i *instance) cleanAll() {
	for _, id := range slices.Sorted(maps.Keys(i.unclean)) {
		if i.cleaned(id) {
			delete(i.unclean, id)
		}
	}
}

// cleaned tells whether a page is as it lies on the disk (or isn't here); if not, its log is forced.
func (i *instance) cleaned(id int) bool {
	if i.pool.Clean(id) == api.ErrWait {
		i.press()
		return false
	}
	return true
}

// handOver hands over what is to go and may.
func (f *Fleet) handOver(i *instance) {
	for _, id := range slices.Sorted(maps.Keys(i.called)) {
		if !i.mayGo(id) {
			continue
		}
		_, lacking, _ := i.pool.Take(id)
		m := api.Msg{Kind: msgBack, Page: id}
		if lacking != 0 {
			m.Body, m.Lsn = string(i.here[id].Bytes()), lacking
		}
		delete(i.called, id)
		delete(i.here, id)
		f.send(i, m)
	}
}

// mayGo tells whether a page lies on the disk, or, if it goes as it is, its log is ahead of it.
func (i *instance) mayGo(id int) bool {
	if i.called[id] == asItIs && i.here[id].Lsn() <= ahead(i.log) {
		return true
	}
	return i.cleaned(id)
}

// fetch asks for the pages that sessions lack, the one first that lacks one longest.
func (f *Fleet) fetch(i *instance) {
	for _, id := range i.lacking() {
		if _, is := i.asked[id]; is {
			continue
		}
		if !f.frame(i) {
			return
		}
		i.asked[id] = struct{}{}
		f.send(i, api.Msg{Kind: msgNeed, Page: id})
	}
}

// lacking is the pages that sessions lack.
func (i *instance) lacking() []int {
	var jobs []*job
	for _, x := range i.sessions {
		if x.job != nil && x.job.lacks >= 0 {
			jobs = append(jobs, x.job)
		}
	}
	slices.SortFunc(jobs, func(a, b *job) int { return cmp.Compare(a.no, b.no) })
	var ids []int
	for _, j := range jobs {
		ids = append(ids, j.lacks)
	}
	return ids
}

// frame tells whether a frame is free for one page more. If none is, a page is handed over, if none is about to go already.
func (f *Fleet) frame(i *instance) bool {
	if i.pool.Room() > len(i.asked) {
		return true
	}
	if len(i.called) > 0 {
		return false
	}
	id, e := i.pool.Spare()
	if e != api.OK {
		return false
	}
	i.called[id] = written
	f.handOver(i)
	return i.pool.Room() > len(i.asked)
}

// gets takes in a page that was asked for.
func (f *Fleet) gets(i *instance, m api.Msg) {
	p, lacking := f.Disk(m.Page), api.Lsn(0)
	if m.Body != "" {
		p, lacking = parsed(m), m.Lsn
	}
	i.pool.Put(p, lacking)
	i.here[m.Page] = p
	delete(i.asked, m.Page)
}

// calls has a page go, if it didn't go by itself already.
func (f *Fleet) calls(i *instance, m api.Msg) {
	if i.here[m.Page] == nil {
		return
	}
	i.called[m.Page] = written
	if m.Fast {
		i.called[m.Page] = asItIs
	}
}

// check lays a checkpoint into the log, if it has room.
func (f *Fleet) check(i *instance) {
	open := api.Record{Kind: api.RecOpen, Lsn: i.tick()}
	check := api.Record{Kind: api.RecCheck, Lsn: i.tick(), Txns: i.txns.Rows(), Dirty: i.pool.Dirty()}
	if rec.Size(open)+rec.Size(check) > i.log.Room() {
		return
	}
	i.log.Append(open)
	i.log.Append(check)
	i.press()
	f.run(i)
}
