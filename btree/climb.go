package btree

import (
	"slices"

	"concord/api"
	"concord/node"
	"concord/store"
)

// leastSize is how many bytes every node but the root's has at least, in a table that was made by Put and Delete alone.
const leastSize = api.PageBody / 4

// climb is the walk upward from a changed leaf, along the way that led down to it.
type climb struct {
	batch *store.Batch
	slot  int
	way   []step
}

// up lays down a changed leaf. What that makes of the branch above is laid down in the same manner, level by level, up to the first one that has its right size.
func (c climb) up(n api.Node) api.Errno {
	at := len(c.way) - 1
upward:
	for ; at > 0; at-- {
		var e api.Errno
		size := node.Size(n)
		switch {
		case size > api.PageBody:
			n, e = c.split(at, n)
		case n.Leaf && isBare(n):
			n, e = c.drop(at)
		case size < leastSize:
			above, mended, f := c.mend(at, n)
			if f == api.OK && !mended {
				break upward
			}
			n, e = above, f
		default:
			break upward
		}
		if e != api.OK {
			return e
		}
	}
	if at > 0 {
		return write(c.batch, c.way[at].page, n)
	}
	return c.top(n)
}

// top lays down the root's node. A table without cells has no page, and a root with a single kid leaves the table to it.
func (c climb) top(n api.Node) api.Errno {
	root := c.way[0].page
	switch {
	case n.Leaf && isBare(n):
		return c.leave(0)
	case isBare(n):
		return c.leave(n.Kids[0])
	case node.Size(n) <= api.PageBody:
		return write(c.batch, root, n)
	case len(c.way) == api.MaxHeight:
		return api.ErrBroken
	}
	key, right, e := c.halve(root, n)
	if e != api.OK {
		return e
	}
	page, e := alloc(c.batch, api.Node{Keys: []string{key}, Kids: []uint32{root, right}})
	if e != api.OK {
		return e
	}
	return c.batch.SetRoot(c.slot, page)
}

// leave makes another page the root, and gives the old one back, which cannot be done while it is the root.
func (c climb) leave(page uint32) api.Errno {
	if e := c.batch.SetRoot(c.slot, page); e != api.OK {
		return e
	}
	return c.batch.Release(c.way[0].page)
}

// halve leaves the first half of a node on its page, and lays the second one on a new page: the key between them, and that page.
func (c climb) halve(page uint32, n api.Node) (string, uint32, api.Errno) {
	left, key, right, e := node.Split(n)
	if e != api.OK {
		return "", 0, e
	}
	if e := write(c.batch, page, left); e != api.OK {
		return "", 0, e
	}
	added, e := alloc(c.batch, right)
	return key, added, e
}

// split lays down a node that is too great for a page, on two of them, and answers the branch above.
func (c climb) split(at int, n api.Node) (api.Node, api.Errno) {
	above := c.way[at-1]
	key, right, e := c.halve(c.way[at].page, n)
	if e != api.OK {
		return api.Node{}, e
	}
	grown, e := node.Grow(above.node, above.kid, key, right)
	if e != api.OK {
		return api.Node{}, api.ErrBroken // the leaf has keys that do not belong there
	}
	return grown, api.OK
}

// drop gives back the page of a leaf that has no cells any more, and answers the branch above.
func (c climb) drop(at int) (api.Node, api.Errno) {
	above := c.way[at-1]
	if e := c.batch.Release(c.way[at].page); e != api.OK {
		return api.Node{}, e
	}
	if above.kid > 0 {
		return node.Shrink(above.node, above.kid-1)
	}
	// Shrink takes out the kid behind a key; so the first one's place is taken by the next.
	n := above.node
	n.Kids = slices.Clone(n.Kids)
	n.Kids[0] = n.Kids[1]
	return node.Shrink(n, 0)
}
