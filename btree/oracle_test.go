package btree_test

import (
	"slices"

	"concord/api"
	"concord/btree"
	"concord/node"
)

// due is a page that is still to be visited, with all keys between which what stands beneath it should be: of each branch above the one ahead and the one behind, the empty text where there is none.
type due struct {
	page   uint32
	level  int
	bounds [][2]string
}

// toldCell is a cell as going through tells it, with the visit of its leaf.
type toldCell struct {
	api.Cell
	leaf due
}

// nodeOf is the node of a page, as the chapter's words have it; or the break's error.
func nodeOf(pages btree.Pages, d due) (api.Node, api.Errno) {
	p, e := pages.Read(d.page)
	if e != api.OK {
		return api.Node{}, e
	}
	n, e := node.Decode(p.Body)
	switch {
	case p.Kind != 78, e != api.OK, d.level > 8:
		return api.Node{}, api.ErrBroken
	case n.Leaf && len(n.Cells) == 0 && d.level > 1, !n.Leaf && len(n.Keys) == 0:
		return api.Node{}, api.ErrBroken
	}
	return n, api.OK
}

// gone is a going through: what was told, the pages that were visited, and the break's error.
type gone struct {
	told    []toldCell
	visited []uint32
	broke   api.Errno
}

// throughOf goes through a table from a text on: what is due stands in a list, and the kids of a branch take its place.
func throughOf(pages btree.Pages, root uint32, from string) (g gone) {
	agenda := []due{{page: root, level: 1}}
	if root == 0 {
		agenda = nil
	}
	for len(agenda) > 0 {
		d := agenda[0]
		n, e := nodeOf(pages, d)
		if e == api.OK && slices.Contains(g.visited, d.page) {
			e = api.ErrBroken
		}
		if g.broke = e; e != api.OK {
			return g
		}
		g.visited = append(g.visited, d.page)
		agenda = append(kidsFrom(n, d, from), agenda[1:]...)
		for _, c := range n.Cells {
			if c.Key < from {
				continue
			}
			if len(g.told) > 0 && g.told[len(g.told)-1].Key >= c.Key {
				g.broke = api.ErrBroken
				return g
			}
			g.told = append(g.told, toldCell{c, d})
		}
	}
	return g
}

// cells are what was told, without the visits.
func (g gone) cells() []api.Cell {
	var l []api.Cell
	for _, c := range g.told {
		l = append(l, c.Cell)
	}
	return l
}

// levels is how many levels the table has.
func (g gone) levels() int {
	if len(g.told) == 0 {
		return 0
	}
	return g.told[0].leaf.level
}

// check is what Check should answer, if it was gone through from the empty text on.
func (g gone) check() api.Errno {
	for _, c := range g.told {
		if g.broke == api.OK && (c.leaf.level != g.levels() || slices.ContainsFunc(c.leaf.bounds, c.isBeyond)) {
			return api.ErrBroken
		}
	}
	return g.broke
}

// isBeyond says whether a cell is not between two keys.
func (c toldCell) isBeyond(b [2]string) bool {
	return b[0] != "" && c.Key < b[0] || b[1] != "" && c.Key >= b[1]
}

// kidsFrom are the kids of a branch beneath which keys stand that are not below a text.
func kidsFrom(n api.Node, d due, from string) []due {
	var l []due
	for i, kid := range n.Kids {
		ahead, behind := "", ""
		if i > 0 {
			ahead = n.Keys[i-1]
		}
		if i < len(n.Keys) {
			behind = n.Keys[i]
		}
		if behind != "" && behind <= from {
			continue // all keys beneath it are below
		}
		l = append(l, due{kid, d.level + 1, append(slices.Clone(d.bounds), [2]string{ahead, behind})})
	}
	return l
}

// leafOf is the page of the leaf to which one goes down for a key, with its node.
func leafOf(pages btree.Pages, root uint32, key string) (uint32, api.Node, api.Errno) {
	for d := (due{page: root, level: 1}); ; d.level++ {
		n, e := nodeOf(pages, d)
		if e != api.OK || n.Leaf {
			return d.page, n, e
		}
		d.page = kidsFrom(n, d, key)[0].page
	}
}

// levelsOf is how many levels a table has on the way to its first leaf.
func levelsOf(pages btree.Pages, root uint32) int {
	levels := 0
	for d := (due{page: root, level: 1}); d.page != 0; d.level++ {
		n, _ := nodeOf(pages, d)
		if levels++; len(n.Kids) == 0 {
			break
		}
		d.page = n.Kids[0]
	}
	return levels
}

// getOf is what Get should answer.
func getOf(pages btree.Pages, root uint32, key string) (string, bool, api.Errno) {
	if root == 0 {
		return "", false, api.OK
	}
	_, n, e := leafOf(pages, root, key)
	for _, c := range n.Cells {
		if c.Key == key {
			return c.Value, true, e
		}
	}
	return "", false, e
}
