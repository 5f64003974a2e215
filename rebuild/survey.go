package rebuild

import (
	"concord/api"
	"concord/cancel"
	"concord/hashtree"
	"concord/segment"
	"concord/tree"
)

// list is a segment with its entries.
type list struct {
	segment int
	entries []api.Entry
}

// Survey is the sums of all segments of entries, hashed by so many workers at one time.
func Survey(t *cancel.Token, l []api.Entry, width, workers int) ([]string, api.Errno) {
	switch {
	case width < 1 || width > api.MaxWidth:
		return nil, api.ErrArg
	case !segment.Valid(l, width):
		return nil, api.ErrEntry
	}
	return cancel.Map(t, workers, dealt(l), func(x list) (string, api.Errno) {
		return segment.Sum(x.segment, x.entries, width)
	})
}

// dealt are the lists of all segments, of entries that rise by key.
func dealt(l []api.Entry) []list {
	all := make([]list, api.Segments)
	for n := range all {
		all[n].segment = n
	}
	for _, entry := range l {
		x := &all[segment.Of(entry.Key)]
		x.entries = append(x.entries, entry)
	}
	return all
}

// Audit is the nodes whose sums, as they lie, are not those of the objects.
func Audit(t *cancel.Token, h *hashtree.Tree, workers int) ([]uint16, api.Errno) {
	whole, e := h.Snapshot()
	if e != api.OK {
		return nil, e
	}
	l := nodes()
	wrong, e := cancel.Map(t, workers, l, func(node uint16) (bool, api.Errno) {
		return unlike(h, whole, node)
	})
	if e != api.OK {
		return nil, e
	}
	var told []uint16
	for i, is := range wrong {
		if is {
			told = append(told, l[i])
		}
	}
	return told, api.OK
}

// nodes are all that a tree has, rising.
func nodes() []uint16 {
	var l []uint16
	for node := uint16(0); tree.Level(node) >= 0; node++ {
		l = append(l, node)
	}
	return l
}

// unlike tells whether a node's sum, as it lies, is another one than that of the objects.
func unlike(h *hashtree.Tree, whole *tree.Tree, node uint16) (bool, api.Errno) {
	lies, e := h.Sum(node)
	if e != api.OK {
		return false, e
	}
	must, e := whole.Sum(node)
	return lies != must, e
}
