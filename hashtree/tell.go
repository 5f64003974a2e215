package hashtree

import (
	"slices"
	"strings"

	"concord/api"
	"concord/object"
	"concord/segment"
	"concord/tree"
)

// Entries are a segment's entries, by its objects as they lie.
func (t *Tree) Entries(n int) ([]api.Entry, api.Errno) {
	if t == nil {
		return nil, api.ErrNil
	}
	prefix, e := segment.Prefix(n)
	if e != api.OK {
		return nil, e
	}
	return t.entries(prefix)
}

// Snapshot is the tree of the objects as they lie, on its own.
func (t *Tree) Snapshot() (*tree.Tree, api.Errno) {
	switch {
	case t == nil:
		return nil, api.ErrNil
	case !t.valid:
		return nil, api.ErrInvalid
	}
	return t.whole()
}

// Sum is the sum of a node as it lies in the store.
func (t *Tree) Sum(node uint16) (string, api.Errno) {
	switch {
	case t == nil:
		return "", api.ErrNil
	case tree.Level(node) < 0:
		return "", api.ErrArg
	}
	sum, _, e := t.table(sumsRoot).Get(sumKey(node))
	return sum, e
}

// whole is the tree of the objects, whatever the sums say.
func (t *Tree) whole() (*tree.Tree, api.Errno) {
	l, e := t.entries("")
	if e != api.OK {
		return nil, e
	}
	// The cells stand by segment; a tree is made of entries that stand by key.
	slices.SortFunc(l, func(a, b api.Entry) int { return strings.Compare(a.Key, b.Key) })
	return tree.Build(t.width, l)
}

// entries are those of the objects whose cells' keys begin with a text.
func (t *Tree) entries(prefix string) ([]api.Entry, api.Errno) {
	objects := t.table(objectsRoot)
	if _, e := objects.Count(); e != api.OK {
		return nil, e
	}
	var l []api.Entry
	// In a table that is not sound going down to the text would miss cells, so all are gone through.
	for key, value := range objects.Seek("") {
		if !strings.HasPrefix(key, prefix) {
			continue
		}
		entry, e := t.entry(api.Cell{Key: key, Value: value})
		if e != api.OK {
			return nil, e
		}
		l = append(l, entry)
	}
	return l, api.OK
}

// entry is that of the object that a cell is.
func (t *Tree) entry(c api.Cell) (api.Entry, api.Errno) {
	o, e := object.Unpack(c)
	if e != api.OK {
		return api.Entry{}, api.ErrBroken
	}
	return object.Entry(o, t.width)
}
