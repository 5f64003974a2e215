package hashtree

import (
	"maps"
	"slices"

	"concord/api"
	"concord/btree"
	"concord/store"
)

// The store's roots under which the tables lie.
const (
	objectsRoot = 0
	sumsRoot    = 1
	marksRoot   = 2
)

// noted are a store's pages, each as it was read first. So a table that is gone through twice, once for its break and once for its cells, is the same both times.
type noted struct {
	store *store.Store
	pages map[uint32]api.Page
}

func (n noted) Read(number uint32) (api.Page, api.Errno) {
	if p, ok := n.pages[number]; ok {
		return p, api.OK
	}
	p, e := n.store.Read(number)
	if e == api.OK {
		n.pages[number] = p
	}
	return p, e
}

// table is the table under a root of the store, as it lies now.
func (t *Tree) table(slot int) *btree.View {
	return btree.Look(t.pages(), t.store.Root(slot))
}

func (t *Tree) pages() noted { return noted{t.store, make(map[uint32]api.Page)} }

// change is a cell that is to be put into a table, or whose key must go.
type change struct {
	slot  int
	key   string
	value string
	gone  bool
}

func (c change) in(b *store.Batch) api.Errno {
	if c.gone {
		_, e := btree.Delete(b, c.slot, c.key)
		return e
	}
	return btree.Put(b, c.slot, c.key, c.value)
}

// lay makes changes in one batch, all of them or none.
func (t *Tree) lay(l []change) api.Errno {
	return t.commit(func(b *store.Batch) api.Errno {
		for _, c := range l {
			if e := c.in(b); e != api.OK {
				return e
			}
		}
		return api.OK
	})
}

// giveBack makes a table, all of whose pages are noted, one without cells. The pages are given back as they are, for a table that is not sound cannot be emptied cell by cell.
func (t *Tree) giveBack(slot int, table noted) api.Errno {
	return t.commit(func(b *store.Batch) api.Errno {
		if e := b.SetRoot(slot, 0); e != api.OK {
			return e
		}
		for _, n := range slices.Sorted(maps.Keys(table.pages)) {
			if e := b.Release(n); e != api.OK {
				return e
			}
		}
		return api.OK
	})
}

// commit makes a batch of what is done in it, if none of that is refused.
func (t *Tree) commit(do func(b *store.Batch) api.Errno) api.Errno {
	b := t.store.Begin()
	e := do(b)
	if e == api.OK {
		e = b.Commit()
	}
	if e != api.OK { // it would go on, unless the store has ended
		b.Drop()
	}
	return e
}

// mostChanges is how many changes a batch is tried with at first: of neighbours so many are mostly on a few pages.
const mostChanges = 64

// layAll makes changes in their order, in batches. How many pages of how large a journal they take is found out by trying.
func (t *Tree) layAll(l []change) api.Errno {
	most := mostChanges
	for len(l) > 0 {
		n := min(most, len(l))
		e := t.lay(l[:n])
		switch {
		case e == api.OK:
			l = l[n:]
		case e == api.ErrBatch && n > 1:
			most = n / 2
		default:
			return e
		}
	}
	return api.OK
}
