package hashtree_test

import (
	"testing"

	"concord/api"
	"concord/hashtree"
)

// The chapter's first example: an empty store.
func TestEmptyExample(t *testing.T) {
	w := plain(t)
	if !w.h.Valid() || !w.h.Closed() || w.h.Dirty() != 0 {
		t.Errorf("valid %v, closed %v, Dirty %d", w.h.Valid(), w.h.Closed(), w.h.Dirty())
	}
	if sum, e := w.h.Sum(0); sum != "" || e != api.OK {
		t.Errorf("Sum(0): %x, %v", sum, e)
	}
	if snap, e := w.h.Snapshot(); e != api.OK || snap.Len() != 0 {
		t.Errorf("Snapshot: %v, %v", snap, e)
	}
	for width, e := range map[int]api.Errno{5: api.ErrWidth, 0: api.ErrArg} {
		if h, f := hashtree.Open(w.s, width); h != nil || f != e {
			t.Errorf("Open(S, %d): %v, %v, want %v", width, h, f, e)
		}
	}
	w.holds("behind these")
}

// The second example: an object is put, and the sums are brought up to date.
func TestRefreshExample(t *testing.T) {
	w := plain(t)
	w.put("x", "a")
	if w.h.Closed() || !w.h.Valid() || w.h.Dirty() != 1 {
		t.Errorf("closed %v, valid %v, Dirty %d", w.h.Closed(), w.h.Valid(), w.h.Dirty())
	}
	if n, ok := w.h.Next(0); n != 2005 || !ok {
		t.Errorf("Next(0): %d, %v", n, ok)
	}
	if n, ok := w.h.Next(2006); n != 0 || ok {
		t.Errorf("Next(2006): %d, %v", n, ok)
	}
	if sum, e := w.h.Sum(0); sum != "" || e != api.OK {
		t.Errorf("Sum(0): %x, %v", sum, e)
	}
	if snap, e := w.h.Snapshot(); e != api.OK || snap.Len() != 1 {
		t.Errorf("Snapshot: %v, %v", snap, e)
	}
	w.holds("not refreshed")

	w.refresh()
	if !w.h.Closed() || w.h.Dirty() != 0 {
		t.Errorf("refreshed: closed %v, Dirty %d", w.h.Closed(), w.h.Dirty())
	}
	for _, node := range []uint16{0, 8, 142, 273 + 2005} {
		if sum, e := w.h.Sum(node); len(sum) != 4 || e != api.OK {
			t.Errorf("Sum(%d): %x, %v", node, sum, e)
		}
	}
	w.holds("refreshed")
}

// The third example: the store is opened again ahead of Refresh, and the tree is made anew.
func TestRebuildExample(t *testing.T) {
	w := plain(t)
	w.put("x", "a")
	w.again()
	if w.h.Valid() || w.h.Dirty() != 0 {
		t.Errorf("opened again: valid %v, Dirty %d", w.h.Valid(), w.h.Dirty())
	}
	_, e := w.h.Snapshot()
	want(t, "Snapshot", e, api.ErrInvalid)
	want(t, "Refresh", w.h.Refresh(), api.ErrInvalid)
	want(t, "Rehash", w.h.Rehash(2005), api.ErrDone)
	want(t, "Finish", w.h.Finish(), api.ErrDone)
	w.begin()
	if w.h.Dirty() != 4096 || !w.h.Building() {
		t.Errorf("begun: Dirty %d, Building %v", w.h.Dirty(), w.h.Building())
	}
	w.rehash(2005)
	if w.h.Dirty() != 4095 {
		t.Errorf("Dirty %d", w.h.Dirty())
	}
	w.holds("one is hashed")
	w.finish()
	if !w.h.Closed() || !w.h.Valid() {
		t.Errorf("finished: closed %v, valid %v", w.h.Closed(), w.h.Valid())
	}
	w.holds("finished")
}

// The fourth example: a rebuild of a closed one.
func TestBeginExample(t *testing.T) {
	w := plain(t)
	w.begin()
	if w.h.Closed() || w.h.Valid() {
		t.Errorf("closed %v, valid %v", w.h.Closed(), w.h.Valid())
	}
	w.again()
	if w.h.Valid() {
		t.Error("opened again it is valid")
	}
	w.holds("opened again")
}

// The fifth example: wrong arguments.
func TestArgumentsExample(t *testing.T) {
	w := plain(t)
	want(t, "Touch(nil, 0)", w.h.Touch(nil, 0), api.ErrNil)
	want(t, "Touch(b, 4096)", w.h.Touch(w.s.Begin(), 4096), api.ErrArg)
	want(t, "Touched(-1)", w.h.Touched(-1), api.ErrArg)
	want(t, "Rehash(4096)", w.h.Rehash(4096), api.ErrArg)
	_, e := w.h.Sum(4369)
	want(t, "Sum(4369)", e, api.ErrArg)
	w.holds("behind these")
}
