package hashtree

import (
	"concord/api"
	"concord/btree"
	"concord/store"
)

// The marks of this layer, and the values of the second one.
const (
	widthKey   = "width"
	markKey    = "mark"
	openMark   = "\x00"
	closedMark = "\x01"
)

// Open is the tree of a store's objects.
func Open(s *store.Store, width int) (*Tree, api.Errno) {
	switch {
	case s == nil:
		return nil, api.ErrNil
	case !isWidth(width):
		return nil, api.ErrArg
	}
	t := &Tree{store: s, width: width, waits: make(map[int]struct{})}
	there, e := t.takeMarks()
	if e == api.OK && !there {
		e = t.layMarks()
	}
	if e != api.OK {
		return nil, e
	}
	t.valid = t.closed
	return t, api.OK
}

// takeMarks takes over what the marks say, and tells whether they are there.
func (t *Tree) takeMarks() (bool, api.Errno) {
	marks := t.table(marksRoot)
	told, hasWidth, unreadWidth := marks.Get(widthKey)
	mark, hasMark, unreadMark := marks.Get(markKey)
	read := unreadWidth == api.OK && unreadMark == api.OK
	// What one mark has wrong goes ahead of the store's error at the other one.
	switch {
	case hasWidth && !(len(told) == 1 && isWidth(int(told[0]))):
		return false, api.ErrBroken
	case hasMark && mark != openMark && mark != closedMark:
		return false, api.ErrBroken
	case read && hasWidth != hasMark:
		return false, api.ErrBroken
	case hasWidth && told != widthMark(t.width):
		return false, api.ErrWidth
	case unreadWidth != api.OK:
		return false, unreadWidth
	case unreadMark != api.OK:
		return false, unreadMark
	}
	t.closed = mark == closedMark
	return hasWidth, api.OK
}

// layMarks lays the first marks down: where there is no object, the sums that lie there, none, are those of the objects.
func (t *Tree) layMarks() api.Errno {
	count, e := t.table(objectsRoot).Count()
	if e != api.OK {
		return e
	}
	mark := openMark
	if count == 0 {
		mark = closedMark
	}
	if e := t.lay([]change{{slot: marksRoot, key: widthKey, value: widthMark(t.width)}, marked(mark)}); e != api.OK {
		return e
	}
	t.closed = mark == closedMark
	return api.OK
}

// marked is the change by which the mark becomes another one.
func marked(mark string) change { return change{slot: marksRoot, key: markKey, value: mark} }

func widthMark(width int) string { return string([]byte{byte(width)}) }

func isWidth(n int) bool { return n >= 1 && n <= api.MaxWidth }

// Touch lays into a batch that a segment's objects change with it.
func (t *Tree) Touch(b *store.Batch, segment int) api.Errno {
	switch {
	case t == nil || b == nil:
		return api.ErrNil
	case !isSegment(segment):
		return api.ErrArg
	case !t.Closed():
		return api.OK
	}
	return btree.Put(b, marksRoot, markKey, openMark)
}

// Touched says that the batch was committed.
func (t *Tree) Touched(segment int) api.Errno {
	switch {
	case t == nil:
		return api.ErrNil
	case !isSegment(segment):
		return api.ErrArg
	}
	t.closed = false
	// A tree that is neither valid nor being made anew has no sums that could be spoilt: a rebuild hashes them all.
	if t.valid || t.building {
		t.waits[segment] = struct{}{}
	}
	return api.OK
}
