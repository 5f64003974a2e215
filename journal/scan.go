package journal

import (
	"concord/api"
	"concord/disk"
	"concord/page"
	"concord/wire"
)

// Found is what a journal holds.
type Found struct {
	Top    uint64
	Whole  bool
	Serial uint64
	Pages  []api.Page
}

// Scan reads a journal.
func Scan(d disk.Device, first, count int) (Found, api.Errno) {
	if e := refused(d, first, count); e != api.OK {
		return Found{}, e
	}
	var f Found
	var lies []api.Page
	for i := range count {
		b, e := d.Read(first + i)
		if e != api.OK {
			return Found{}, e
		}
		head, tail, _ := page.Ends(b)
		f.Top = max(f.Top, head, tail)
		if i <= Room(count) {
			// Of what is no page this is the zero one, whose Kind is neither a header's nor a slot's.
			p, _ := page.Decode(b, uint32(first+i))
			lies = append(lies, p)
		}
	}
	if l, ok := batch(lies[0], lies[1:]); ok {
		f.Whole, f.Serial, f.Pages = true, lies[0].Serial, l
	}
	return f, api.OK
}

// batch is the batch that a header and as many slots as there is room for tell, if it is whole.
func batch(header api.Page, slots []api.Page) ([]api.Page, bool) {
	if header.Kind != headerKind || header.Serial == 0 {
		return nil, false
	}
	l, ok := listed(header.Body, len(slots))
	if !ok {
		return nil, false
	}
	for i := range len(l) {
		slot := slots[i]
		// A slot of another serial is of another batch, and this one was broken off, or is being written over.
		if slot.Kind != slotKind || slot.Serial != header.Serial {
			return nil, false
		}
		l[i].Serial, l[i].Body = slot.Serial, slot.Body
	}
	return l, true
}

// listed is the batch that a header's body lists, its pages still without their Bodies.
func listed(body string, room int) ([]api.Page, bool) {
	r := wire.NewReader(body)
	l := make([]api.Page, r.Uint(uint64(room)))
	for i := range len(l) {
		l[i].Kind = r.Byte()
		l[i].Number = uint32(r.Fixed(numberBytes))
	}
	return l, r.End() == api.OK && rising(l)
}
