package btree

import (
	"slices"

	"concord/api"
	"concord/node"
)

// mend lays down a node that is too small, and answers the branch above. False: nothing is laid down yet, for the node can but stay as small as it is. That is so only beside a neighbour that Put and Delete have not made.
func (c climb) mend(at int, n api.Node) (api.Node, bool, api.Errno) {
	above, joined, e := c.join(at, n)
	if e != api.OK || joined || !isBare(n) {
		return above, joined, e
	}
	// A branch without keys would be none, so its kid takes its place.
	above = c.way[at-1].node
	above.Kids = slices.Clone(above.Kids)
	above.Kids[c.way[at-1].kid] = n.Kids[0]
	return above, true, c.batch.Release(c.way[at].page)
}

// join lays down a node and its neighbour, the next one, or the one ahead of the last: in one, or, where that is too great for a page, cut anew. False: they cannot be joined.
func (c climb) join(at int, n api.Node) (api.Node, bool, api.Errno) {
	above, kid := c.way[at-1].node, c.way[at-1].kid
	between := min(kid, len(above.Keys)-1)
	left, right := n, n
	var ok bool
	var e api.Errno
	if between == kid {
		right, ok, e = c.neighbour(above.Kids[kid+1], at)
	} else {
		left, ok, e = c.neighbour(above.Kids[between], at)
	}
	if e != api.OK || !ok {
		return api.Node{}, false, e
	}
	whole, e := node.Join(left, above.Keys[between], right)
	switch {
	case e != api.OK:
		return api.Node{}, false, api.OK
	case node.Size(whole) > api.PageBody:
		return c.share(above, between, whole)
	}
	return c.merge(above, between, whole)
}

// neighbour is the node of a page beside the way. What is wrong with it breaks nothing, for the way does not lead there.
func (c climb) neighbour(page uint32, at int) (api.Node, bool, api.Errno) {
	p, e := c.batch.Read(page)
	if e != api.OK {
		return api.Node{}, false, e
	}
	n, ok := nodeIn(p, at+1)
	return n, ok, api.OK
}

// merge lays two neighbours on the first one's page, and gives the other one back.
func (c climb) merge(above api.Node, between int, whole api.Node) (api.Node, bool, api.Errno) {
	if e := write(c.batch, above.Kids[between], whole); e != api.OK {
		return api.Node{}, false, e
	}
	if e := c.batch.Release(above.Kids[between+1]); e != api.OK {
		return api.Node{}, false, e
	}
	shrunk, e := node.Shrink(above, between)
	return shrunk, true, e
}

// share lays two neighbours on both their pages, as equal as can be.
func (c climb) share(above api.Node, between int, whole api.Node) (api.Node, bool, api.Errno) {
	left, key, right, e := node.Split(whole)
	if e != api.OK {
		return api.Node{}, false, e
	}
	turned, e := node.Turn(above, between, key)
	if e != api.OK {
		return api.Node{}, false, api.OK
	}
	if e := write(c.batch, above.Kids[between], left); e != api.OK {
		return api.Node{}, false, e
	}
	return turned, true, write(c.batch, above.Kids[between+1], right)
}
