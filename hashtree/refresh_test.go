package hashtree_test

import (
	"fmt"
	"maps"
	"slices"
	"testing"

	"concord/api"
	"concord/btree"
)

// P17.5: a tree that is closed: nothing is written, though a batch is on, or the power is at its end.
func TestRefreshOfAClosedTree(t *testing.T) {
	w := plain(t)
	w.put("x", "a", keyIn(9))
	w.refresh()
	lies, b := w.d.Durable(), w.s.Begin()
	w.refresh()
	w.like("Refresh", lies, b)
	w.d.Fuse(0)
	w.refresh()
	w.holds("closed")
}

// P17.5: behind each change, be it that a segment gets its first object or loses its last one.
func TestRefreshBehindEachChange(t *testing.T) {
	w := plain(t)
	a, b := keys()[2005][0], keys()[2005][1]
	for i, edits := range [][]edit{
		{{key: a, value: "1"}}, {{key: a, value: "2"}}, {{key: b, value: "1"}}, {{key: a, gone: true}}, {{key: b, gone: true}},
		{{key: keyIn(0), value: "1"}, {key: keyIn(15), value: "1"}, {key: keyIn(16), value: "1"}}, {{key: keyIn(15), gone: true}},
		{{key: keyIn(4095), value: "1"}, {key: keyIn(0), gone: true}}, {{key: keyIn(16), gone: true}, {key: keyIn(4095), gone: true}},
	} {
		w.change(edits...)
		w.holds(fmt.Sprint("changed ", i))
		w.refresh()
		w.holds(fmt.Sprint("refreshed ", i))
		w.again()
		w.holds(fmt.Sprint("opened again ", i))
	}
	if w.s.Root(sumsRoot) != 0 {
		t.Error("sums are left where there are no objects")
	}
}

// P17.5: journals of all sizes; of each batch that is too great smaller ones are made.
func TestRefreshInEachJournal(t *testing.T) {
	for journal := 8; journal <= 32; journal++ {
		for _, width := range []int{1, 32} {
			w := fresh(t, 300, journal, width)
			for i := range 30 {
				w.put("x", keyIn(131*i))
			}
			serial := w.s.Serial()
			w.refresh()
			w.holds("refreshed")
			if batches := w.s.Serial() - serial; batches < 2 {
				t.Errorf("a journal of %d: %d batches: the test has lost its weight", journal, batches)
			}
			for i := range 30 {
				w.change(edit{key: keyIn(131 * i), gone: true})
			}
			w.refresh()
			w.holds("emptied")
		}
	}
}

// P17.5: a journal that holds one page beside the head is enough where each change is on one page; where it is not, the store's error is told, and the tree stays valid.
func TestRefreshInALeastJournal(t *testing.T) {
	w := fresh(t, 100, 3, 32)
	put := func(key string) {
		b := w.s.Begin()
		after := w.objects.copied()
		wantOK(t, "change", editIn(b, after, edit{key: key, value: "x"}))
		if e := b.Commit(); e != api.OK {
			t.Fatalf("Commit: %v", e)
		}
		w.objects = after
	}
	b := w.s.Begin()
	wantOK(t, "Touch", w.h.Touch(b, 0))
	wantOK(t, "Commit", b.Commit())
	w.marks["mark"] = "\x00"
	for i := range 4 {
		put(keyIn(1000 * i))
		w.touched(edit{key: keyIn(1000 * i)})
	}
	w.refresh()
	w.holds("refreshed")

	b = w.s.Begin()
	wantOK(t, "Touch", w.h.Touch(b, 0))
	wantOK(t, "Commit", b.Commit())
	w.marks["mark"] = "\x00"
	for i := range 8 {
		put(keyIn(400*i + 100))
		w.touched(edit{key: keyIn(400*i + 100)})
	}
	want(t, "Refresh", w.h.Refresh(), api.ErrBatch)
	w.tells("refused")
	w.hasSnapshot("refused")
	w.hasEntries("refused")
	if m := cells(t, w.s, marksRoot); m["mark"] != "\x00" {
		t.Error("the mark says closed")
	}
}

// full takes all free pages of a store but some into use, and gives them back.
func full(t *testing.T, w *world, but int) (free func()) {
	t.Helper()
	var taken []uint32
	for w.s.Free() > but {
		b := w.s.Begin()
		for range min(20, w.s.Free()-but) {
			n, e := b.Alloc(1, "")
			wantOK(t, "Alloc", e)
			taken = append(taken, n)
		}
		wantOK(t, "Commit", b.Commit())
	}
	return func() {
		for some := range slices.Chunk(taken, 20) {
			b := w.s.Begin()
			for _, n := range some {
				wantOK(t, "Release", b.Release(n))
			}
			wantOK(t, "Commit", b.Commit())
		}
	}
}

// P17.5: a store that has no room says so; the tree is as it was, and is refreshed when there is room again.
func TestRefreshOfAFullStore(t *testing.T) {
	for but := range 3 {
		w := fresh(t, 100, 24, 32)
		for i := range 20 {
			w.put("x", keyIn(200*i))
		}
		free := full(t, w, but)
		want(t, "Refresh", w.h.Refresh(), api.ErrFull)
		w.tells("full")
		w.hasSnapshot("full")
		w.hasEntries("full")
		w.put("y", keyIn(200))
		free()
		w.refresh()
		w.holds("there is room again")
	}
}

// What must go goes first: sums that nobody has put there do not take the room of those that there must be.
func TestFinishOfAFullStore(t *testing.T) {
	w := fresh(t, 100, 24, 32)
	for i := range 20 {
		w.put("x", keyIn(200*i))
	}
	w.begin()
	for i := range 200 {
		w.strange(sumsRoot, fmt.Sprint("strange", i), string(make([]byte, 60)), false)
	}
	full(t, w, 0)
	w.finish()
	w.holds("finished")
}

// P17.5: a change on a page of its own each, so that a few fill a batch: the tree is brought up to date in several, and the batches in which nothing is told are none.
func TestRefreshOfScatteredSums(t *testing.T) {
	w := fresh(t, 600, 8, 32)
	for i := range 100 {
		w.put("x", keyIn(40*i))
	}
	w.refresh()
	for i := range 25 {
		w.put("y", keyIn(160*i))
	}
	serial := w.s.Serial()
	w.refresh()
	w.holds("refreshed")
	if batches := w.s.Serial() - serial; batches < 4 || batches > 100 {
		t.Errorf("%d batches", batches)
	}
}

// P17.5: the table of the sums, when it breaks: the error is told, and the mark stays open.
func TestRefreshOfBrokenSums(t *testing.T) {
	key := sumKey(0, 0)
	for what, c := range brokenSums() {
		w := plain(t)
		w.put("x", "a", keyIn(9))
		lay(t, w.s, sumsRoot, c.bodies)
		want(t, what, w.h.Refresh(), c.e)
		w.tells(what)
		w.hasSnapshot(what)
		v := btree.Look(w.s, w.s.Root(sumsRoot))
		value, _, e := v.Get(key)
		if sum, f := w.h.Sum(0); sum != value || f != e {
			t.Errorf("%s: Sum(0): %x, %v, want %x, %v", what, sum, f, value, e)
		}
		if m := cells(t, w.s, marksRoot); !maps.Equal(m, w.marks) {
			t.Errorf("%s: the marks are %x", what, m)
		}
	}
}

// brokenSums are tables of sums that break.
func brokenSums() map[string]struct {
	bodies func(first uint32) []string
	e      api.Errno
} {
	type broken = struct {
		bodies func(first uint32) []string
		e      api.Errno
	}
	return map[string]broken{
		"no node":     {func(uint32) []string { return []string{"no node"} }, api.ErrBroken},
		"round":       {func(first uint32) []string { return []string{branch(first, "\x02", first)} }, api.ErrBroken},
		"a free page": {func(first uint32) []string { return []string{branch(100, "\x02", first+1), leaf(sumKey(3, 5), "abcd")} }, api.ErrFree},
		"free behind": {func(first uint32) []string { return []string{branch(first+1, "\x02", 100), leaf(sumKey(0, 0), "abcd")} }, api.ErrFree},
		"twice": {func(first uint32) []string {
			return []string{branch(first+1, "\x02", first+1), leaf(sumKey(0, 0), "abcd")}
		}, api.ErrBroken},
		"not sound, and free behind": {func(first uint32) []string {
			return []string{branch(first+1, "\x00", 100), leaf(sumKey(0, 0), "abcd")}
		}, api.ErrFree},
	}
}
