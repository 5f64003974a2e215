package hashtree_test

import (
	"fmt"
	"maps"
	"math"
	"strings"
	"testing"

	"concord/api"
	"concord/btree"
	"concord/hashtree"
	"concord/store"
)

// refused makes sure that Open answers an error, beside it nothing, and has changed no mark.
func refused(t *testing.T, what string, s *store.Store, width int, want api.Errno) {
	t.Helper()
	serial := s.Serial()
	if h, e := hashtree.Open(s, width); h != nil || e != want {
		t.Errorf("%s: Open(%d): %v, %v, want %v", what, width, h, e, want)
	}
	if s.Serial() != serial {
		t.Errorf("%s: something was written", what)
	}
}

// P17.1: no store, and widths that are none; the store is asked for first.
func TestOpenArguments(t *testing.T) {
	_, s := blank(t, 60, 24)
	for _, width := range []int{0, -1, 33, 256 + 4, 1 << 32, math.MinInt, math.MaxInt} {
		refused(t, "no width", s, width, api.ErrArg)
		refused(t, "no store", nil, width, api.ErrNil)
	}
	refused(t, "no store", nil, 4, api.ErrNil)
	if s.Root(marksRoot) != 0 {
		t.Error("marks were laid down")
	}
}

// P17.1: each width that may be: both marks are laid down in one batch, and are taken over later.
func TestOpenLaysMarks(t *testing.T) {
	for width := 1; width <= 32; width++ {
		w := fresh(t, 60, 24, width)
		if w.s.Serial() != 2 {
			t.Errorf("the width %d took %d batches", width, w.s.Serial()-1)
		}
		w.holds("laid down")
		w.again()
		w.holds("taken over")
		if w.s.Serial() != 2 {
			t.Errorf("the width %d was laid down again", width)
		}
		for other := 1; other <= 32; other++ {
			if other != width {
				refused(t, "another width", w.s, other, api.ErrWidth)
			}
		}
		w.holds("behind the others")
	}
}

// P17.1: where there are objects, the first marks say that the tree is open.
func TestOpenOverObjects(t *testing.T) {
	_, s := blank(t, 60, 24)
	key, value := cellOf(t, "a")
	b := s.Begin()
	wantOK(t, "Put", btree.Put(b, objectsRoot, key, value))
	wantOK(t, "Commit", b.Commit())
	h, e := hashtree.Open(s, 4)
	wantOK(t, "Open", e)
	if h.Valid() || h.Closed() || h.Building() || h.Dirty() != 0 {
		t.Errorf("valid %v, closed %v, Dirty %d", h.Valid(), h.Closed(), h.Dirty())
	}
	if m := cells(t, s, marksRoot); !maps.Equal(m, map[string]string{"width": "\x04", "mark": "\x00"}) || s.Serial() != 3 {
		t.Errorf("the marks are %x, the Serial is %d", m, s.Serial())
	}
}

// P17.1: a table that has a page and no cells has no object.
func TestOpenOverAnEmptyLeaf(t *testing.T) {
	_, s := blank(t, 60, 24)
	lay(t, s, objectsRoot, func(uint32) []string { return []string{leaf()} })
	if h, e := hashtree.Open(s, 4); e != api.OK || !h.Closed() {
		t.Errorf("Open: %v, %v", h, e)
	}
}

// markCase are marks as they may lie, and what Open(4) answers.
type markCase struct {
	what        string
	width, mark string
	none        string // which of them is not there at all
	e           api.Errno
	closed      bool
}

func markCases() []markCase {
	l := []markCase{
		{"closed", "\x04", "\x01", "", api.OK, true},
		{"open", "\x04", "\x00", "", api.OK, false},
		{"another width", "\x05", "\x01", "", api.ErrWidth, false},
		{"another width, open", "\x01", "\x00", "", api.ErrWidth, false},
		{"the greatest width", "\x20", "\x00", "", api.ErrWidth, false},
		{"no mark", "\x04", "", "mark", api.ErrBroken, false},
		{"no width", "", "\x00", "width", api.ErrBroken, false},
		{"no width, closed", "", "\x01", "width", api.ErrBroken, false},
		{"no mark, and another width", "\x05", "", "mark", api.ErrBroken, false},
	}
	for _, width := range []string{"", "\x00", "\x21", "\xff", "\x04\x04", "\x00\x04", "4", strings.Repeat("\x04", 200)} {
		l = append(l, markCase{fmt.Sprintf("the width %x", width), width, "\x01", "", api.ErrBroken, false})
	}
	for _, mark := range []string{"", "\x02", "\xff", "\x00\x00", "\x01\x00", "\x00\x01", "1", strings.Repeat("\x01", 200)} {
		l = append(l, markCase{fmt.Sprintf("the mark %x", mark), "\x04", mark, "", api.ErrBroken, false})
		l = append(l, markCase{fmt.Sprintf("another width, the mark %x", mark), "\x05", mark, "", api.ErrBroken, false})
	}
	return l
}

// P17.1: marks that lie there: which may be, which may not, and in which order that is asked.
func TestOpenAsksTheMarks(t *testing.T) {
	for _, c := range markCases() {
		_, s := blank(t, 60, 24)
		b := s.Begin()
		lies := map[string]string{"id": "\x07", "life": "\x00\x09"}
		if c.none != "width" {
			lies["width"] = c.width
		}
		if c.none != "mark" {
			lies["mark"] = c.mark
		}
		for key, value := range lies {
			wantOK(t, "Put", btree.Put(b, marksRoot, key, value))
		}
		wantOK(t, "Commit", b.Commit())
		if c.e != api.OK {
			refused(t, c.what, s, 4, c.e)
		} else if h, e := hashtree.Open(s, 4); e != api.OK || h.Closed() != c.closed || h.Valid() != c.closed || h.Dirty() != 0 || h.Building() {
			t.Errorf("%s: %v, %v", c.what, h, e)
		}
		if m := cells(t, s, marksRoot); !maps.Equal(m, lies) || s.Serial() != 2 {
			t.Errorf("%s: the marks have become %x", c.what, m)
		}
	}
}

// P17.1: marks of others stay, and do not count.
func TestOpenBesideOtherMarks(t *testing.T) {
	w := &world{t: t}
	w.d, w.s = blank(t, 60, 24)
	w.strange(marksRoot, "id", "\x01", false)
	w.strange(marksRoot, "life", "\x00\x02", false)
	h, e := hashtree.Open(w.s, 4)
	wantOK(t, "Open", e)
	wantOK(t, "Begin", h.Begin())
	wantOK(t, "Finish", h.Finish())
	if m := cells(t, w.s, marksRoot); !maps.Equal(m, map[string]string{"id": "\x01", "life": "\x00\x02", "width": "\x04", "mark": "\x01"}) {
		t.Errorf("the marks are %x", m)
	}
}

// P17.1: what the store says, at each step.
func TestOpenMeetsTheStore(t *testing.T) {
	_, s := blank(t, 60, 24)
	lay(t, s, marksRoot, func(uint32) []string { return []string{"no node"} })
	refused(t, "marks that are no table", s, 4, api.ErrBroken)

	_, s = blank(t, 60, 24)
	lay(t, s, objectsRoot, func(uint32) []string { return []string{"no node"} })
	refused(t, "objects that are no table", s, 4, api.ErrBroken)

	_, s = blank(t, 60, 24)
	lay(t, s, objectsRoot, func(first uint32) []string { return []string{branch(first+1, "m", 30), leaf("a", "b")} })
	refused(t, "objects in a page that is free", s, 4, api.ErrFree)

	_, s = blank(t, 4, 2)
	refused(t, "a journal that has no room", s, 4, api.ErrBatch)

	_, s = blank(t, 26, 24)
	b := s.Begin()
	_, e := b.Alloc(1, "")
	wantOK(t, "Alloc", e)
	wantOK(t, "Commit", b.Commit())
	refused(t, "no free page", s, 4, api.ErrFull)

	d, s := blank(t, 60, 24)
	d.Fuse(0)
	refused(t, "the end of the power", s, 4, api.ErrPower)
	refused(t, "a dead store", s, 4, api.ErrDone)
	d.Crash(api.Fate{})
	s = opened(t, d, 24)
	if _, e := hashtree.Open(s, 4); e != api.OK {
		t.Errorf("behind the crash: %v", e)
	}

	d, s = blank(t, 60, 24)
	_, e = hashtree.Open(s, 4)
	wantOK(t, "Open", e)
	d.Fuse(0)
	want(t, "Sync", d.Sync(), api.ErrPower)
	refused(t, "marks that cannot be read", s, 4, api.ErrPower)
}

// P17.1: of a mark that is wrong and one that cannot be read the wrong one is told.
func TestOpenOfHalfATable(t *testing.T) {
	for _, c := range []struct {
		what        string
		left, right string
		e           api.Errno
	}{
		{"the width alone can be read", "", leaf("width", "\x04"), api.ErrFree},
		{"a wrong one", "", leaf("width", "\x00"), api.ErrBroken},
		{"another one", "", leaf("width", "\x05"), api.ErrWidth},
		{"there is none", "", leaf("x", ""), api.ErrFree},
		{"the mark alone can be read", leaf("mark", "\x01"), "", api.ErrFree},
		{"a wrong mark", leaf("mark", "\x02"), "", api.ErrBroken},
	} {
		_, s := blank(t, 60, 24)
		lay(t, s, marksRoot, func(first uint32) []string {
			if c.left == "" {
				return []string{branch(30, "n", first+1), c.right}
			}
			return []string{branch(first+1, "n", 30), c.left}
		})
		refused(t, c.what, s, 4, c.e)
	}
}

// Open ends a batch that is on just if it writes.
func TestOpenAndTheBatchThatIsOn(t *testing.T) {
	_, s := blank(t, 60, 24)
	b := s.Begin()
	_, e := hashtree.Open(s, 4)
	wantOK(t, "Open", e)
	want(t, "the batch", b.Commit(), api.ErrDone)
	b = s.Begin()
	_, e = hashtree.Open(s, 4)
	wantOK(t, "Open", e)
	want(t, "the batch", b.Commit(), api.OK)
}
