package hashtree_test

import (
	"math/rand"
	"slices"
	"testing"

	"concord/api"
	"concord/btree"
	"concord/disk"
	"concord/hashtree"
	"concord/store"
)

// all calls everything that a tree has.
func all(h *hashtree.Tree, b *store.Batch, r *rand.Rand) {
	n := r.Intn(4098) - 1
	h.Width()
	h.Valid()
	h.Closed()
	h.Dirty()
	h.Next(n)
	h.Building()
	h.Touch(b, n)
	h.Touched(n)
	h.Entries(n)
	h.Snapshot()
	h.Sum(uint16(r.Intn(65536)))
	h.Refresh()
	h.Rehash(n)
	h.Finish()
	h.Begin()
	h.Rehash(n)
	h.Touched(n)
	h.Next(n)
	h.Finish()
	h.Closed()
}

// R1: objects that did not come out of their package's own calls: each call ends, and none panics.
func TestMadeOtherwise(t *testing.T) {
	r := rand.New(rand.NewSource(1))
	all(new(hashtree.Tree), nil, r)
	all(new(hashtree.Tree), new(store.Batch), r)
	_, s := blank(t, 60, 24)
	all(new(hashtree.Tree), s.Begin(), r)
	h, e := hashtree.Open(new(store.Store), 4)
	if h != nil || e == api.OK {
		t.Errorf("Open of a store that is none: %v, %v", h, e)
	}
	w, v := plain(t), plain(t)
	w.put("x", "a")
	all(w.h, v.s.Begin(), r)
}

// R1, P17.4: tables of any bytes, in a store that is sound: each call ends; where Entries tells something, the table of the objects does not break.
func TestAnyTables(t *testing.T) {
	met := map[string]int{}
	for seed := range int64(400) {
		r := rand.New(rand.NewSource(seed))
		_, s := blank(t, 60, 24)
		early, _ := hashtree.Open(s, 4)
		b := s.Begin()
		var pages []uint32
		for range 3 + r.Intn(8) {
			n, e := b.Alloc(78, someNode(t, r))
			wantOK(t, "Alloc", e)
			pages = append(pages, n)
		}
		for slot := range 3 {
			if slot < 2 || r.Intn(3) == 0 {
				wantOK(t, "SetRoot", b.SetRoot(slot, pages[r.Intn(len(pages))]))
			}
		}
		wantOK(t, "Commit", b.Commit())
		h, e := hashtree.Open(s, 4)
		if e != api.OK {
			met["refused"]++
			h = early
		}
		_, breaks := btree.Look(s, s.Root(objectsRoot)).Count()
		for _, n := range []int{0, 2005, 4095} {
			l, e := h.Entries(n)
			if e == api.OK && breaks != api.OK || breaks != api.OK && e != breaks || e != api.OK && e != breaks && e != api.ErrBroken || e != api.OK && l != nil {
				t.Fatalf("seed %d: Entries(%d): %v, %v, but Count answers %v", seed, n, l, e, breaks)
			}
			met["Entries: "+e.Error()]++
		}
		all(h, s.Begin(), r)
	}
	if met["refused"] == 0 || met["Entries: "+api.OK.Error()] < 20 || met["Entries: "+api.ErrBroken.Error()] < 20 {
		t.Errorf("%v: the test has lost its weight", met)
	}
}

// someNode is the body of a page that may be a table's.
func someNode(t *testing.T, r *rand.Rand) string {
	key, value := cellOf(t, "a")
	low, its := cellOf(t, keyIn(7))
	switch r.Intn(7) {
	case 0:
		return "no node"
	case 1:
		return leaf()
	case 2:
		return leaf(low, its, key, value)
	case 3:
		return leaf(key, "no state")
	case 4:
		return leaf(sumKey(0, 0), "abcd", sumKey(3, 2005), "efgh")
	case 5:
		return leaf("mark", "\x01", "width", "\x04")
	}
	return branch(uint32(1+r.Intn(14)), string([]byte{byte(r.Intn(10))}), uint32(1+r.Intn(14)))
}

// R1, R3: what is handed out is new each time.
func TestEntriesShareNothing(t *testing.T) {
	w := plain(t)
	w.put("x", "a", keyIn(2005), keys()[2005][1])
	one, e := w.h.Entries(2005)
	wantOK(t, "Entries", e)
	other, e := w.h.Entries(2005)
	wantOK(t, "Entries", e)
	told := slices.Clone(other)
	clear(one[:cap(one)])
	if !slices.Equal(other, told) {
		t.Errorf("%v, want %v", other, told)
	}
}

// R2: trees of unlike stores do not see one another, and two of one store see what lies there.
func TestTreesStandAlone(t *testing.T) {
	w, v := plain(t), plain(t)
	w.put("x", "a")
	v.holds("the other one")
	other, e := hashtree.Open(w.s, 4)
	wantOK(t, "Open", e)
	if other.Valid() || other.Dirty() != 0 {
		t.Errorf("valid %v, Dirty %d", other.Valid(), other.Dirty())
	}
	w.refresh()
	w.holds("the one")
	if value, ok, e := btree.Look(w.s, w.s.Root(marksRoot)).Get("mark"); value != "\x01" || !ok || e != api.OK {
		t.Errorf("the mark: %x, %v, %v", value, ok, e)
	}
}

// flaky is a device of which one read is refused.
type flaky struct {
	disk.Device
	reads  int
	refuse int
}

func (f *flaky) Read(n int) ([]byte, api.Errno) {
	f.reads++
	if f.reads-1 == f.refuse {
		return nil, api.ErrFull
	}
	return f.Device.Read(n)
}

// A read that is refused, whichever it is, is answered, and takes no cell out of what is told.
func TestEachReadIsAnswered(t *testing.T) {
	calls := map[string]func(h *hashtree.Tree) api.Errno{
		"Entries":  func(h *hashtree.Tree) api.Errno { _, e := h.Entries(2005); return e },
		"Snapshot": func(h *hashtree.Tree) api.Errno { _, e := h.Snapshot(); return e },
		"Sum":      func(h *hashtree.Tree) api.Errno { _, e := h.Sum(0); return e },
		"Refresh":  func(h *hashtree.Tree) api.Errno { return h.Refresh() },
		"Rehash":   func(h *hashtree.Tree) api.Errno { return h.Rehash(2005) },
		"Finish":   func(h *hashtree.Tree) api.Errno { return h.Finish() },
	}
	w := many(t, 32)
	w.refresh()
	w.put("y", keys()[2005][0], keyIn(0))
	lies := w.d.Durable()
	for what, call := range calls {
		for refuse := 0; ; refuse++ {
			d, e := disk.Load(lies)
			wantOK(t, "Load", e)
			f := &flaky{Device: d, refuse: -1}
			w.s = opened(t, f, 24)
			w.h, e = hashtree.Open(w.s, 32)
			wantOK(t, "Open", e)
			wantOK(t, "Begin", w.h.Begin())
			if what == "Snapshot" || what == "Refresh" {
				wantOK(t, "Finish", w.h.Finish())
				b := w.s.Begin()
				wantOK(t, "Touch", w.h.Touch(b, 2005))
				wantOK(t, "Commit", b.Commit())
				wantOK(t, "Touched", w.h.Touched(2005))
			}
			f.reads, f.refuse = 0, refuse
			e = call(w.h)
			if f.reads <= refuse {
				want(t, what, e, api.OK)
				if refuse == 0 {
					t.Errorf("%s reads nothing: the test has lost its weight", what)
				}
				break
			}
			if e != api.ErrFull {
				t.Fatalf("%s: the read %d was refused, and it answers %v", what, refuse, e)
			}
		}
	}
}
