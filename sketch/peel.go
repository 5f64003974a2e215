package sketch

import (
	"slices"

	"concord/api"
)

// Peel is the items that it has more, and less, than none; whether nothing is left.
func (s *Sketch) Peel() (more, less []uint64, whole bool) {
	if s == nil {
		return nil, nil, false
	}
	left := s.copied()
	for range len(left.cells) { // no more often, for of cells that no items made it might go on for ever
		i := left.firstPure()
		if i < 0 {
			break
		}
		c := left.cells[i]
		if c.Count > 0 {
			more = append(more, c.Item)
		} else {
			less = append(less, c.Item)
		}
		left.lay(c.Item, -c.Count)
	}
	slices.Sort(more)
	slices.Sort(less)
	return more, less, left.zero()
}

// firstPure is the first cell in which one item alone is, or is missing; -1, if there is none.
func (s *Sketch) firstPure() int {
	for i, c := range s.cells {
		if c.Count != 1 && c.Count != -1 {
			continue
		}
		if c.Check != checkOf(c.Item) {
			continue
		}
		if at := placesOf(c.Item, len(s.cells)); slices.Contains(at[:], i) {
			return i
		}
	}
	return -1
}

// zero tells whether nothing is in any cell.
func (s *Sketch) zero() bool {
	for _, c := range s.cells {
		if c != (api.SketchCell{}) {
			return false
		}
	}
	return true
}
