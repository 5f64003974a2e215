package store

import (
	"maps"
	"slices"

	"concord/api"
)

// Batch is changes that are made at one time.
type Batch struct {
	store   *Store
	head    head                // as the batch sees it
	changed map[uint32]api.Page // the pages in use that it wrote or took into use
	touched bool                // whether anything was done, be it undone again
}

// Read is a page as the batch has it.
func (b *Batch) Read(n uint32) (api.Page, api.Errno) {
	if e := b.refusedAt(n); e != api.OK {
		return api.Page{}, e
	}
	if p, ok := b.changed[n]; ok {
		return p, api.OK
	}
	return b.store.Read(n)
}

// Write gives a page another kind and body.
func (b *Batch) Write(n uint32, kind uint8, body string) api.Errno {
	if e := b.refusedAt(n); e != api.OK {
		return e
	}
	if len(body) > api.PageBody {
		return api.ErrBig
	}
	b.lay(n, kind, body)
	return api.OK
}

// Alloc takes a page into use.
func (b *Batch) Alloc(kind uint8, body string) (uint32, api.Errno) {
	if e := b.refused(); e != api.OK {
		return 0, e
	}
	if len(body) > api.PageBody {
		return 0, api.ErrBig
	}
	n, ok := b.head.leastFree()
	if !ok {
		return 0, api.ErrFull
	}
	b.head.used.Put(int(n))
	b.lay(n, kind, body)
	return n, api.OK
}

// Release gives a page back.
func (b *Batch) Release(n uint32) api.Errno {
	if e := b.refusedAt(n); e != api.OK {
		return e
	}
	if slices.Contains(b.head.roots[:], n) {
		return api.ErrArg
	}
	b.head.used.Take(int(n))
	delete(b.changed, n)
	b.touched = true
	return api.OK
}

// Root is a root's page as the batch has it.
func (b *Batch) Root(i int) uint32 {
	if b.refused() != api.OK {
		return 0
	}
	return b.head.root(i)
}

// SetRoot sets a root's page.
func (b *Batch) SetRoot(i int, n uint32) api.Errno {
	if e := b.refused(); e != api.OK {
		return e
	}
	switch {
	case !isRoot(i) || !b.head.within(n):
		return api.ErrArg
	case !b.head.mayBeRoot(n):
		return api.ErrFree
	}
	b.head.roots[i] = n
	b.touched = true
	return api.OK
}

// Size is how many pages the batch writes.
func (b *Batch) Size() int {
	if b.refused() != api.OK || !b.touched {
		return 0
	}
	return 1 + len(b.changed)
}

// Commit makes all of it durable.
func (b *Batch) Commit() api.Errno {
	if e := b.refused(); e != api.OK {
		return e
	}
	s := b.store
	size := b.Size()
	if size > s.ground.room() {
		return api.ErrBatch
	}
	h, l := b.head, b.pages()
	s.endBatch()
	if size == 0 {
		return api.OK
	}
	return s.commit(h, l)
}

// Drop forgets all of it.
func (b *Batch) Drop() {
	if b.refused() == api.OK {
		b.store.endBatch()
	}
}

// refused says why nothing can be done with the batch. One that the store does not know as its own has ended.
func (b *Batch) refused() api.Errno {
	switch {
	case b == nil:
		return api.ErrNil
	case b.store == nil || b.store.open != b:
		return api.ErrDone
	}
	return api.OK
}

// refusedAt says why a page can be neither read nor changed by the batch.
func (b *Batch) refusedAt(n uint32) api.Errno {
	if e := b.refused(); e != api.OK {
		return e
	}
	return b.head.refused(n)
}

// lay notes what a page in use holds.
func (b *Batch) lay(n uint32, kind uint8, body string) {
	b.changed[n] = api.Page{Kind: kind, Number: n, Body: body}
	b.touched = true
}

// pages are what goes to the journal: the head, and what was changed.
func (b *Batch) pages() []api.Page {
	l := []api.Page{b.head.page()}
	for _, n := range slices.Sorted(maps.Keys(b.changed)) {
		l = append(l, b.changed[n])
	}
	return l
}
