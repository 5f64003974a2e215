package store

import (
	"slices"

	"concord/api"
	"concord/disk"
	"concord/journal"
	"concord/page"
)

const (
	leastJournal = 2 // a header, and a slot for the head
	leastHome    = 2 // the head, and a page to be handed out
)

// ground is a device: the journal's pages in front, home behind them.
type ground struct {
	disk.Device
	pages int // of the device, as it told them at Open
	front int // how many of these are the journal's
}

// Pages stands in front of the device's own, so that the journal does not ask it again behind Open.
func (g ground) Pages() int { return g.pages }

// survey is the ground that a device is, or why it is none.
func survey(d disk.Device, front int) (ground, api.Errno) {
	if d == nil {
		return ground{}, api.ErrNil
	}
	pages := d.Pages()
	// A device may tell any number, so they are held against one another ahead of the difference.
	if pages > api.MaxPages || front < leastJournal || front > pages || pages-front < leastHome {
		return ground{}, api.ErrArg
	}
	return ground{Device: d, pages: pages, front: front}, api.OK
}

// home is how many pages there are behind the journal.
func (g ground) home() int { return g.pages - g.front }

// room is how many pages a batch may have.
func (g ground) room() int { return journal.Room(g.front) }

// scan reads the journal.
func (g ground) scan() (journal.Found, api.Errno) { return journal.Scan(g, 0, g.front) }

// read is what lies on a page of home.
func (g ground) read(n uint32) ([]byte, api.Errno) { return g.Read(g.front + int(n)) }

// redo writes home what the journal holds, for the power may have gone while that was done.
func (g ground) redo(f journal.Found) api.Errno {
	if !f.Whole {
		return api.OK
	}
	if slices.ContainsFunc(f.Pages, func(p api.Page) bool { return uint64(p.Number) >= uint64(g.home()) }) {
		return api.ErrBroken
	}
	return g.settle(f.Serial, f.Pages)
}

// commit makes a batch safe in the journal ahead of writing any of it home.
func (g ground) commit(serial uint64, l []api.Page) api.Errno {
	if e := journal.Put(g, 0, g.front, serial, l); e != api.OK {
		return e
	}
	return g.settle(serial, l)
}

// settle writes the pages of a batch home.
func (g ground) settle(serial uint64, l []api.Page) api.Errno {
	for _, p := range l {
		p.Serial = serial
		b, e := page.Encode(p)
		if e != api.OK {
			return e
		}
		if e := g.Write(g.front+int(p.Number), b); e != api.OK {
			return e
		}
	}
	return g.Sync()
}
