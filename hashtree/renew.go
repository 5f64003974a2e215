package hashtree

import (
	"maps"
	"slices"

	"concord/api"
	"concord/btree"
	"concord/segment"
	"concord/tree"
	"concord/wire"
)

// Refresh hashes anew what waits.
func (t *Tree) Refresh() api.Errno {
	switch {
	case t == nil:
		return api.ErrNil
	case !t.valid:
		return api.ErrInvalid
	case t.Closed():
		return api.OK
	}
	return t.settle()
}

// Begin begins a rebuild.
func (t *Tree) Begin() api.Errno {
	if t == nil {
		return api.ErrNil
	}
	if t.Closed() {
		if e := t.lay([]change{marked(openMark)}); e != api.OK {
			return e
		}
	}
	t.closed, t.valid, t.building = false, false, true
	t.waits = make(map[int]struct{})
	for n := range api.Segments {
		t.waits[n] = struct{}{}
	}
	return api.OK
}

// Rehash hashes a segment anew in a rebuild.
func (t *Tree) Rehash(n int) api.Errno {
	switch {
	case t == nil:
		return api.ErrNil
	case !isSegment(n):
		return api.ErrArg
	case !t.building:
		return api.ErrDone
	}
	l, e := t.Entries(n)
	if e != api.OK {
		return e
	}
	sum, e := segment.Sum(n, l, t.width)
	if e != api.OK {
		return e
	}
	node, e := tree.Node(api.Depth, n)
	if e != api.OK {
		return e
	}
	if e := t.renew(node, sum); e != api.OK {
		return e
	}
	delete(t.waits, n)
	return api.OK
}

// Finish ends a rebuild.
func (t *Tree) Finish() api.Errno {
	switch {
	case t == nil:
		return api.ErrNil
	case !t.building:
		return api.ErrDone
	}
	return t.settle()
}

// settle makes the sums, as they lie, those of the tree of the objects, and closes. The mark is the last of all that is laid down, for up to then some of the sums may be others.
func (t *Tree) settle() api.Errno {
	whole, e := t.whole()
	if e != api.OK {
		return e
	}
	l, e := t.unlike(whole.Sum)
	if e != api.OK {
		return e
	}
	if e := t.layAll(append(l, marked(closedMark))); e != api.OK {
		return e
	}
	t.closed, t.valid, t.building = true, true, false
	clear(t.waits)
	return api.OK
}

// renew makes a node's sum, as it lies, another one.
func (t *Tree) renew(node uint16, sum string) api.Errno {
	old, e := t.Sum(node)
	if e != api.OK || old == sum {
		return e
	}
	c := summed(node, sum)
	c.gone = sum == ""
	return t.lay([]change{c})
}

// unlike are the changes by which the sums, as they lie, become those that sum tells. What must go comes first, for it makes room.
func (t *Tree) unlike(sum func(node uint16) (string, api.Errno)) ([]change, api.Errno) {
	sums, e := t.soundSums()
	if e != api.OK {
		return nil, e
	}
	anew, gone := make(map[string]change), make(map[string]change)
	e = down(0, sum, func(node uint16, told string) {
		c := summed(node, told)
		anew[c.key] = c
	})
	if e != api.OK {
		return nil, e
	}
	for key, value := range sums.Seek("") {
		if c, ok := anew[key]; ok && c.value == value {
			delete(anew, key)
		} else {
			gone[key] = change{slot: sumsRoot, key: key, gone: true}
		}
	}
	for key := range anew { // put over what lies there
		delete(gone, key)
	}
	return append(byKey(gone), byKey(anew)...), api.OK
}

// soundSums is the table of the sums. One that does not break and is not sound is given back first: in it a cell may be told and yet not be found, so that nobody knows what changes make of it.
func (t *Tree) soundSums() (*btree.View, api.Errno) {
	pages := t.pages()
	sums := btree.Look(pages, t.store.Root(sumsRoot))
	if _, e := sums.Count(); e != api.OK {
		return nil, e
	}
	if sums.Check() == api.OK {
		return sums, api.OK
	}
	if e := t.giveBack(sumsRoot, pages); e != api.OK {
		return nil, e
	}
	return t.table(sumsRoot), api.OK
}

// down goes from a node down to all that have a sum: above each of these all have one.
func down(node uint16, sum func(node uint16) (string, api.Errno), visit func(node uint16, told string)) api.Errno {
	told, e := sum(node)
	if e != api.OK || told == "" {
		return e
	}
	visit(node, told)
	for i := range api.Fanout {
		kid, ok := tree.Kid(node, i)
		if !ok {
			break
		}
		if e := down(kid, sum, visit); e != api.OK {
			return e
		}
	}
	return api.OK
}

// byKey are the changes of a map, by the keys of their cells.
func byKey(m map[string]change) []change {
	var l []change
	for _, key := range slices.Sorted(maps.Keys(m)) {
		l = append(l, m[key])
	}
	return l
}

// summed is the change by which a node has a sum.
func summed(node uint16, sum string) change {
	return change{slot: sumsRoot, key: sumKey(node), value: sum}
}

// sumKey is the key under which a node's sum lies.
func sumKey(node uint16) string {
	w := wire.NewWriter()
	w.Byte(uint8(tree.Level(node)))
	w.Fixed(uint64(tree.Index(node)), 2)
	return w.Told()
}
