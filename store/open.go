package store

import (
	"concord/api"
	"concord/disk"
	"concord/journal"
	"concord/page"
)

// Open opens what lies on a device, whose first pages are the journal; a blank one is laid out first.
func Open(d disk.Device, journal int) (*Store, api.Errno) {
	g, e := survey(d, journal)
	if e != api.OK {
		return nil, e
	}
	f, e := g.scan()
	if e != api.OK {
		return nil, e
	}
	if e := g.redo(f); e != api.OK {
		return nil, e
	}
	p, e := g.first(f)
	if e != api.OK {
		return nil, e
	}
	h, ok := headOf(p, g.home())
	if !ok || p.Serial >= api.MaxSerial || f.Top >= api.MaxSerial {
		return nil, api.ErrBroken
	}
	return &Store{ground: g, head: h, serial: p.Serial, next: max(p.Serial, f.Top) + 1}, api.OK
}

// first is the page 0, laid out where nothing was ever written.
func (g ground) first(f journal.Found) (api.Page, api.Errno) {
	b, e := g.read(0)
	if e != api.OK {
		return api.Page{}, e
	}
	if page.Blank(b) && !f.Whole {
		return g.layOut(f.Top)
	}
	p, e := page.Decode(b, 0)
	if e != api.OK {
		return api.Page{}, api.ErrBroken
	}
	return p, api.OK
}

// layOut makes a store in which nothing is in use, by a batch like any other.
func (g ground) layOut(top uint64) (api.Page, api.Errno) {
	if top >= api.MaxSerial {
		return api.Page{}, api.ErrBroken
	}
	p := bare(g.home()).page()
	p.Serial = top + 1
	if e := g.commit(p.Serial, []api.Page{p}); e != api.OK {
		return api.Page{}, e
	}
	return p, api.OK
}
