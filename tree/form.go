package tree

import (
	"iter"

	"concord/api"
	"concord/segment"
	"concord/wire"
)

// formMark is the first byte of a node's form, by which it is unlike an object's or a segment's.
const formMark = 0x4e

// Forms goes through the texts that were hashed: of the nodes above the segments, then of the segments.
func (t *Tree) Forms() iter.Seq[string] {
	return func(yield func(string) bool) {
		if t == nil {
			return
		}
		for node := range uint16(inner + api.Segments) {
			if form := t.form(node); form != "" && !yield(form) {
				return
			}
		}
	}
}

// form is the text that is hashed for a node; the empty one where nothing is, for there are no entries beneath it.
func (t *Tree) form(node uint16) string {
	if node < inner {
		return nodeForm(node, t.kids[node])
	}
	n := Index(node)
	if len(t.lists[n]) == 0 {
		return ""
	}
	form, _ := segment.Form(n, t.lists[n])
	return form
}

// nodeForm is the form of a node above the segments whose children have these sums.
func nodeForm(node uint16, kids sixteen) string {
	if kids == (sixteen{}) {
		return ""
	}
	w := wire.NewWriter()
	w.Byte(formMark)
	w.Byte(uint8(Level(node)))
	w.Fixed(uint64(Index(node)), 2)
	for i, sum := range kids {
		if sum != "" {
			w.Byte(uint8(i))
			w.Text(sum)
		}
	}
	return w.Told()
}
