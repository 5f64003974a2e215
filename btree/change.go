package btree

import (
	"concord/api"
	"concord/node"
	"concord/store"
)

// roots is how many roots a store has.
const roots = 8

// Put gives a key a value, in the table of a root.
func Put(b *store.Batch, slot int, key, value string) api.Errno {
	if e := wrong(b, slot, key); e != api.OK {
		return e
	}
	if len(key)+len(value) > api.MaxCell {
		return api.ErrBig
	}
	if ended(b) {
		return api.ErrDone
	}
	root := b.Root(slot)
	if root == 0 {
		return plant(b, slot, api.Cell{Key: key, Value: value})
	}
	way, e := down(b, root, key)
	if e != api.OK {
		return e
	}
	leaf, e := node.Put(way[len(way)-1].node, key, value)
	if e != api.OK {
		return e
	}
	return climb{b, slot, way}.up(leaf)
}

// Delete takes a key out of the table of a root, and says whether it was there.
func Delete(b *store.Batch, slot int, key string) (bool, api.Errno) {
	if e := wrong(b, slot, key); e != api.OK {
		return false, e
	}
	if ended(b) {
		return false, api.ErrDone
	}
	root := b.Root(slot)
	if root == 0 {
		return false, api.OK
	}
	way, e := down(b, root, key)
	if e != api.OK {
		return false, e
	}
	leaf, found := node.Take(way[len(way)-1].node, key)
	if !found {
		return false, api.OK
	}
	if e := (climb{b, slot, way}).up(leaf); e != api.OK {
		return false, e
	}
	return true, api.OK
}

// wrong says what is wrong with what both Put and Delete are handed.
func wrong(b *store.Batch, slot int, key string) api.Errno {
	switch {
	case b == nil:
		return api.ErrNil
	case slot < 0 || slot >= roots || key == "" || len(key) > MaxKey:
		return api.ErrArg
	}
	return api.OK
}

// ended says whether a batch has ended. Page 0 is refused to every batch, so asking for it tells that and nothing else.
func ended(b *store.Batch) bool {
	_, e := b.Read(0)
	return e == api.ErrDone
}

// plant makes a table of one cell.
func plant(b *store.Batch, slot int, c api.Cell) api.Errno {
	page, e := alloc(b, api.Node{Leaf: true, Cells: []api.Cell{c}})
	if e != api.OK {
		return e
	}
	return b.SetRoot(slot, page)
}

// write lays a node on a page that is in use.
func write(b *store.Batch, page uint32, n api.Node) api.Errno {
	body, e := node.Encode(n)
	if e != api.OK {
		return e
	}
	return b.Write(page, tableKind, body)
}

// alloc lays a node on a page that is taken into use.
func alloc(b *store.Batch, n api.Node) (uint32, api.Errno) {
	body, e := node.Encode(n)
	if e != api.OK {
		return 0, e
	}
	return b.Alloc(tableKind, body)
}
