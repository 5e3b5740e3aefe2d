package fleet

import (
	"flotilla/act"
	"flotilla/api"
	"flotilla/mend"
	"flotilla/page"
)

// change does a planned change, and records it; false: the log has no room.
func (i *instance) change(p *page.Page, txn int, a api.Act) bool {
	r := i.record(api.RecUpdate, txn)
	r.Page, r.Act = p.ID(), a
	if !i.put(r) {
		return false
	}
	i.redo(p, r)
	return true
}

// undo takes a record back, which is what is taken back next of its transaction.
func (i *instance) undo(p *page.Page, r api.Record) {
	row, _ := i.txns.Row(r.Txn)
	u, _ := act.Back(r, i.tick(), row.Last, i.next(r.Prev))
	i.redo(p, u)
	i.spend(u)
}

// next is what was to be taken back next of a transaction behind one of its records.
func (i *instance) next(at api.Lsn) api.Lsn {
	for at != 0 {
		r, _ := i.log.Find(at)
		switch r.Kind {
		case api.RecUpdate:
			return r.Lsn
		case api.RecUndo:
			return r.Undo
		}
		at = r.Prev
	}
	return 0
}

// redo does what a record of the instance tells.
func (i *instance) redo(p *page.Page, r api.Record) {
	redone(p, r)
	i.pool.Soil(r.Page, r.Lsn)
}

// redone does what records tell on a page that lacks it: how many it lacked.
//
// What is taken back may come into other slots than it had, so that more slots are free in the end than there were, and they take the room that a value needs which comes back. What the page is to have it had once: there is room for it without free slots.
func redone(p *page.Page, l ...api.Record) int {
	done := 0
	for {
		n, e := mend.Make(p, l)
		done += n
		if e != api.ErrFull || !hasFree(p) {
			return done
		}
		closeUp(p)
	}
}

// hasFree tells whether a slot is free.
func hasFree(p *page.Page) bool { return len(p.Cells()) > len(p.Pairs()) }

// closeUp lays a page's keys anew, such that no slot is free.
func closeUp(p *page.Page) {
	l := p.Cells()
	for _, c := range l {
		p.Delete(c.Key)
	}
	for _, c := range l {
		p.Insert(c.Key, c.Value)
	}
}
