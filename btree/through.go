package btree

import (
	"concord/api"
	"concord/node"
)

// tableKind is the kind of the pages that hold a table's nodes.
const tableKind = 78

// nodeAt is the node of a page on a level, or why a table breaks there.
func nodeAt(pages Pages, page uint32, level int) (api.Node, api.Errno) {
	// What Read answers goes ahead of all else, of a page that is too deep, too.
	p, e := pages.Read(page)
	if e != api.OK {
		return api.Node{}, e
	}
	n, ok := nodeIn(p, level)
	if !ok {
		return api.Node{}, api.ErrBroken
	}
	return n, api.OK
}

// nodeIn is the node that a page holds, if a table may have it on that level.
func nodeIn(p api.Page, level int) (api.Node, bool) {
	if p.Kind != tableKind || level > api.MaxHeight {
		return api.Node{}, false
	}
	n, e := node.Decode(p.Body)
	if e != api.OK || isBare(n) && !(n.Leaf && level == 1) {
		return api.Node{}, false
	}
	return n, true
}

// isBare says whether a leaf has no cells, or a branch no keys.
func isBare(n api.Node) bool { return len(n.Cells) == 0 && len(n.Keys) == 0 }

// place is where a page stands in a table: on which level, and between which bounds all keys beneath it should be. The empty text is no bound, for no key is empty.
type place struct {
	level     int
	low, high string
}

// beneath is the place of the i-th kid of a branch that stands here.
func (p place) beneath(keys []string, i int) place {
	p.level++
	if i > 0 && keys[i-1] > p.low {
		p.low = keys[i-1]
	}
	if i < len(keys) && (p.high == "" || keys[i] < p.high) {
		p.high = keys[i]
	}
	return p
}

// holds says whether a key is within the bounds.
func (p place) holds(key string) bool {
	return key >= p.low && (p.high == "" || key < p.high)
}

// walk is one going through a table.
type walk struct {
	pages   Pages
	from    string
	tell    func(api.Cell, place)
	visited map[uint32]struct{}
	last    string // the key told last; the empty text, below all keys, ahead of the first
}

// through goes through the table from a text on: each cell is handed to tell, with the place of its leaf; it answers the error of the break, if there is one.
func (v *View) through(from string, tell func(api.Cell, place)) api.Errno {
	if v.isNil() {
		return api.ErrNil
	}
	if v.root == 0 {
		return api.OK
	}
	w := walk{pages: v.pages, from: from, tell: tell, visited: make(map[uint32]struct{})}
	return w.visit(v.root, place{level: 1})
}

// visit goes through all that stands beneath a page.
func (w *walk) visit(page uint32, at place) api.Errno {
	n, e := nodeAt(w.pages, page, at.level)
	if e != api.OK {
		return e
	}
	if _, again := w.visited[page]; again {
		return api.ErrBroken
	}
	w.visited[page] = struct{}{}
	if n.Leaf {
		return w.tellLeaf(n, at)
	}
	for i := node.Kid(n, w.from); i < len(n.Kids); i++ {
		if e := w.visit(n.Kids[i], at.beneath(n.Keys, i)); e != api.OK {
			return e
		}
	}
	return api.OK
}

// tellLeaf tells a leaf's cells that are not below the text from which the walk goes.
func (w *walk) tellLeaf(n api.Node, at place) api.Errno {
	first, _ := node.Find(n, w.from)
	for _, c := range n.Cells[first:] {
		if c.Key <= w.last {
			return api.ErrBroken
		}
		w.last = c.Key
		w.tell(c, at)
	}
	return api.OK
}

// step is a page on the way from the root to a leaf.
type step struct {
	page uint32
	node api.Node
	kid  int // the place of the kid to which the way goes on
}

// down is the way from the root to the leaf where a key belongs.
func down(pages Pages, root uint32, key string) ([]step, api.Errno) {
	var way []step
	page := root
	for {
		n, e := nodeAt(pages, page, len(way)+1)
		if e != api.OK {
			return nil, e
		}
		if n.Leaf {
			return append(way, step{page: page, node: n}), api.OK
		}
		kid := node.Kid(n, key)
		way = append(way, step{page: page, node: n, kid: kid})
		page = n.Kids[kid]
	}
}
