package fleet

import (
	"flotilla/api"
	"flotilla/page"
	"flotilla/stable"
	"flotilla/wal"
)

// disk has the pages, one behind the other.
type disk struct{ device *stable.Device }

// newDisk has empty pages.
func newDisk(pages int) disk {
	device, _ := stable.New(pages * api.PageSize)
	return disk{device}
}

// Fetch is a page as it lies there.
func (d disk) Fetch(id int) (*page.Page, api.Errno) {
	b, e := d.device.Read(id*api.PageSize, api.PageSize)
	if e != api.OK {
		return nil, e
	}
	return page.Parse(id, b)
}

// Lay lays a page. One hand is enough for all who write: nobody is told a page that is written in part, as each write is over when the call is.
func (d disk) Lay(p *page.Page) api.Errno {
	if e := d.device.Start(0, p.ID()*api.PageSize, p.Bytes()); e != api.OK {
		return e
	}
	return d.device.Finish(0)
}

// store is the disk for an instance's pool.
type store struct {
	disk
	log *wal.Log
}

// Stable tells up to where the log is ahead.
func (s store) Stable() api.Lsn { return ahead(s.log) }

// ahead is up to where a log is ahead of an instance's pages. They have LSNs of other logs, too, which were forced before the page was handed over: where nothing of its own log is lacking, it is ahead of all.
func ahead(log *wal.Log) api.Lsn {
	if log.Stable() == log.Last() {
		return ^api.Lsn(0)
	}
	return log.Stable()
}

// parsed is the page that a message has.
func parsed(m api.Msg) *page.Page {
	p, _ := page.Parse(m.Page, []byte(m.Body))
	return p
}
