package fleet

import (
	"flotilla/api"
	"flotilla/lock"
	"flotilla/lsn"
	"flotilla/own"
)

// What messages tell. Each has the LSN up to where its sender's clock was, but for a page that is handed over as it is: that one has the LSN from which on the disk may lack something of it.
const (
	msgAsk    = iota // to the manager: Txn asks for Wants
	msgEnd           // Txn is over
	msgNeed          // the instance asks for Page
	msgBack          // the instance hands Page over: as Body, or, if that is empty, as it lies on the disk
	msgGrant         // to an instance: Txn has what it asked for
	msgVictim        // Txn waited in a ring, and is to be taken back
	msgOver          // Txn has no locks any more
	msgGive          // Page is the instance's
	msgCall          // the instance is to hand Page over
	msgCount
)

// manager has the locks and the book of pages. It never crashes.
type manager struct {
	locks *lock.Table
	book  *own.Book
	seen  api.Lsn            // the greatest LSN that it was shown
	asked map[int][]api.Want // by transaction what it asks for behind what it waits for
	lost  map[int]int        // by page the instance that had it when it crashed
}

func newManager(c api.Config) manager {
	book, _ := own.New(c.Pages, c.Fast)
	return manager{locks: lock.New(), book: book, asked: map[int][]api.Want{}, lost: map[int]int{}}
}

func (m *manager) see(l api.Lsn) { m.seen = lsn.Max(m.seen, l) }

// deeds has what each kind of message does, at the manager or at an instance.
func (f *Fleet) deeds() [msgCount]func(*instance, api.Msg) {
	return [msgCount]func(*instance, api.Msg){
		msgAsk:    f.ask,
		msgEnd:    f.end,
		msgNeed:   f.need,
		msgBack:   f.back,
		msgGrant:  f.granted,
		msgVictim: f.victim,
		msgOver:   f.over,
		msgGive:   f.gets,
		msgCall:   f.calls,
	}
}

// tell sends a message to an instance.
func (f *Fleet) tell(to int, m api.Msg) {
	if m.Body == "" {
		m.Lsn = f.seen
	}
	f.net.Send(0, to, m)
}

// ask lets a transaction ask for locks.
func (f *Fleet) ask(_ *instance, m api.Msg) {
	f.asked[m.Txn] = m.Wants
	f.pursue(m.Txn)
}

// pursue asks for one lock after the other, till one isn't given.
func (f *Fleet) pursue(txn int) {
	wants, is := f.asked[txn]
	if !is { // its instance crashed
		return
	}
	for n, w := range wants {
		if has, _ := f.locks.Ask(txn, w); !has {
			f.asked[txn] = wants[n+1:]
			f.breakRings(txn)
			return
		}
	}
	delete(f.asked, txn)
	f.tell(home(txn), api.Msg{Kind: msgGrant, Txn: txn})
}

// breakRings lets no ring be left of those in which somebody waits who has just begun to wait. (There are no others: somebody is in each who was the last to begin.)
func (f *Fleet) breakRings(txn int) {
	for v, is := f.locks.Victim(txn); is; v, is = f.locks.Victim(txn) {
		delete(f.asked, v)
		got := f.locks.Cancel(v)
		f.tell(home(v), api.Msg{Kind: msgVictim, Txn: v})
		f.let(got)
	}
}

// let has those go on who got a lock.
func (f *Fleet) let(got []lock.Grant) {
	for _, g := range got {
		f.pursue(g.Txn)
	}
}

// end lets a transaction's locks go.
func (f *Fleet) end(i *instance, m api.Msg) {
	got := f.locks.Free(m.Txn)
	f.tell(i.no, api.Msg{Kind: msgOver, Txn: m.Txn})
	f.let(got)
}

// need has an instance wait for a page.
func (f *Fleet) need(i *instance, m api.Msg) {
	orders, _ := f.book.Need(m.Page, i.no)
	f.obey(orders, api.Msg{})
}

// back has a page go on to the next one. If it comes as it is, and nobody waits for it any more, the manager writes it: its log is ahead of it.
func (f *Fleet) back(i *instance, m api.Msg) {
	orders, _ := f.book.Back(m.Page, i.no)
	if len(orders) == 0 && m.Body != "" {
		f.disk.Lay(parsed(m))
	}
	f.obey(orders, m)
}

// obey does what the book tells; a page that came as it is goes on so.
func (f *Fleet) obey(orders []api.Order, came api.Msg) {
	for _, o := range orders {
		switch o.Kind {
		case api.OrderGive:
			f.tell(o.To, api.Msg{Kind: msgGive, Page: o.Page, Body: came.Body, Lsn: came.Lsn})
		case api.OrderCall:
			f.tell(o.From, api.Msg{Kind: msgCall, Page: o.Page, To: o.To, Fast: o.Fast})
		}
	}
}
