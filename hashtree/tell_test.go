package hashtree_test

import (
	"fmt"
	"math/rand"
	"slices"
	"sync"
	"testing"

	"concord/api"
	"concord/hashtree"
)

// many is a tree over objects in many segments, some of which have several.
func many(t *testing.T, width int) *world {
	t.Helper()
	w := fresh(t, 400, 24, width)
	r := rand.New(rand.NewSource(174))
	for i := range 40 {
		n := r.Intn(4096)
		if i%4 == 0 {
			n = 2005
		}
		w.change(edit{key: keys()[n][i/4%len(keys()[n])], value: fmt.Sprint(i)})
	}
	return w
}

// P17.4: the entries of each segment, and the sum of each node.
func TestAllEntriesAndSums(t *testing.T) {
	for _, width := range []int{1, 8, 32} {
		w := many(t, width)
		w.refresh()
		for n := range 4096 {
			if l, e := w.h.Entries(n); !slices.Equal(l, w.objects.entries(n, width)) || e != api.OK {
				t.Fatalf("Entries(%d): %x, %v", n, l, e)
			}
		}
		for node := range 4369 {
			if sum, e := w.h.Sum(uint16(node)); sum != w.sums[keyOf(node)] || e != api.OK {
				t.Fatalf("Sum(%d): %x, %v", node, sum, e)
			}
		}
		for node := 4369; node < 65536; node += 1 + node%7 {
			if sum, e := w.h.Sum(uint16(node)); sum != "" || e != api.ErrArg {
				t.Fatalf("Sum(%d): %x, %v", node, sum, e)
			}
		}
		if l, _ := w.h.Entries(2005); len(l) < 4 {
			t.Errorf("only %d entries in a segment", len(l))
		}
	}
}

// P17.4: what Entries and Sum refuse; of a tree that is not valid both are told.
func TestEntriesArguments(t *testing.T) {
	w := plain(t)
	w.put("x", "a")
	w.again()
	for _, n := range noSegments() {
		if l, e := w.h.Entries(n); l != nil || e != api.ErrArg {
			t.Errorf("Entries(%d): %v, %v", n, l, e)
		}
	}
	if l, e := w.h.Entries(2005); len(l) != 1 || e != api.OK {
		t.Errorf("of a tree that is not valid: %v, %v", l, e)
	}
	w.holds("behind these")
}

// P17.4: later changes do not show in a Snapshot, nor what is written into a list.
func TestWhatIsToldStays(t *testing.T) {
	w := plain(t)
	w.put("x", "a", keyIn(9))
	before := w.objects.copied()
	snap, e := w.h.Snapshot()
	wantOK(t, "Snapshot", e)
	l, e := w.h.Entries(2005)
	wantOK(t, "Entries", e)
	told := slices.Clone(l)
	w.put("y", "a", keyIn(10))
	w.change(edit{key: keyIn(9), gone: true})
	if s := unlike(snap, before, 4); s != "" || !slices.Equal(l, told) {
		t.Errorf("%s; %x", s, l)
	}
	w.refresh()
	if s := unlike(snap, before, 4); s != "" {
		t.Error(s)
	}
	for i := range l[:cap(l)] {
		l[:cap(l)][i] = api.Entry{Key: "over", Sum: "written"}
	}
	w.holds("written over")
}

// P17.4: nothing is written by what tells, and a batch that is on goes on.
func TestTellingWritesNothing(t *testing.T) {
	for _, valid := range []bool{true, false} {
		w := many(t, 8)
		if !valid {
			w.again()
		}
		lies, b := w.d.Durable(), w.s.Begin()
		for n := range 50 {
			w.h.Entries(n * 80)
			w.h.Sum(uint16(n))
		}
		w.h.Snapshot()
		w.tells("ahead")
		w.like("telling", lies, b)
		want(t, "the batch", b.Commit(), api.OK)
		w.holds("behind")
	}
}

// P17.4: several goroutines at one time.
func TestTellingAtOneTime(t *testing.T) {
	w := many(t, 8)
	w.refresh()
	w.put("z", "a", keyIn(77))
	var group sync.WaitGroup
	faults := make([]string, 12)
	for i := range faults {
		group.Go(func() {
			for n := range 60 {
				if l, e := w.h.Entries(1970 + n); e != api.OK || !slices.Equal(l, w.objects.entries(1970+n, 8)) {
					faults[i] = fmt.Sprint("Entries of ", 1970+n)
				}
				if sum, e := w.h.Sum(uint16(273 + 1970 + n)); e != api.OK || sum != w.sums[sumKey(3, 1970+n)] {
					faults[i] = fmt.Sprint("Sum of ", 1970+n)
				}
			}
			if snap, e := w.h.Snapshot(); e != api.OK || unlike(snap, w.objects, 8) != "" {
				faults[i] = "Snapshot"
			}
		})
	}
	group.Wait()
	if all := slices.Compact(faults); !slices.Equal(all, []string{""}) {
		t.Error(all)
	}
}

// five are the calls that go through the table of the objects, of a segment each where they ask for one.
func five(h *hashtree.Tree, n int) map[string]api.Errno {
	_, entries := h.Entries(n)
	_, snapshot := h.Snapshot()
	return map[string]api.Errno{"Entries": entries, "Snapshot": snapshot, "Refresh": h.Refresh(), "Rehash": h.Rehash(n), "Finish": h.Finish()}
}

// asked holds the five against what they must answer of an open tree, a valid one and then one that is made anew; of all other ways to ask them their errors go ahead.
func asked(t *testing.T, what string, spoil func(w *world), n int, segment, all api.Errno) {
	t.Helper()
	w := plain(t)
	w.put("x", "a", "b", keyIn(3000))
	spoil(w)
	e := five(w.h, n)
	want(t, what+", valid: Entries", e["Entries"], segment)
	want(t, what+", valid: Snapshot", e["Snapshot"], all)
	want(t, what+", valid: Rehash", e["Rehash"], api.ErrDone)
	want(t, what+", valid: Finish", e["Finish"], api.ErrDone)
	want(t, what+", valid: Refresh", e["Refresh"], all)
	if !w.h.Valid() || w.h.Closed() != (all == api.OK) {
		t.Errorf("%s: valid %v, closed %v behind %v", what, w.h.Valid(), w.h.Closed(), e)
	}
	wantOK(t, "Begin", w.h.Begin())
	e = five(w.h, n)
	want(t, what+", made anew: Entries", e["Entries"], segment)
	want(t, what+", made anew: Snapshot", e["Snapshot"], api.ErrInvalid)
	want(t, what+", made anew: Refresh", e["Refresh"], api.ErrInvalid)
	want(t, what+", made anew: Rehash", e["Rehash"], segment)
	want(t, what+", made anew: Finish", e["Finish"], all)
	dirty := 4096
	if segment == api.OK {
		dirty--
	}
	if all == api.OK {
		dirty = 0
	}
	if w.h.Dirty() != dirty || w.h.Building() == (all == api.OK) {
		t.Errorf("%s: Dirty %d, Building %v behind %v", what, w.h.Dirty(), w.h.Building(), e)
	}
}

// Cells that are looked at and are no object's: of one segment by Entries and Rehash, of all by the others.
func TestCellsThatAreNoObjects(t *testing.T) {
	key, value := cellOf(t, "a")
	spoilt := map[string]struct{ key, value string }{
		"a state that is none":       {key, "no state"},
		"an empty state":             {key, ""},
		"an absent state":            {key, "\x00\x00"},
		"bytes behind the state":     {key, value + "\x00"},
		"a key of another segment":   {key[:2] + "b", value},
		"no key behind the segment":  {key[:2], value},
		"a key of more than 32":      {key + string(make([]byte, 40)), value},
		"an object's key, not whole": {key[:1], value},
	}
	for what, c := range spoilt {
		spoil := func(w *world) { w.strange(objectsRoot, c.key, c.value, false) }
		segment := api.ErrBroken
		if len(c.key) < 2 { // it begins with no segment's Prefix
			segment = api.OK
		}
		asked(t, what, spoil, 2005, segment, api.ErrBroken)
		for _, n := range []int{0, 2004, 2006, 3000, 4095} {
			asked(t, what+", another segment", spoil, n, api.OK, api.ErrBroken)
		}
	}
}

// A table of objects that breaks: its break is the answer, whatever segment is asked for.
func TestObjectsThatBreak(t *testing.T) {
	key, value := cellOf(t, "a")
	for what, c := range map[string]struct {
		bodies func(first uint32) []string
		e      api.Errno
	}{
		"no node":                  {func(uint32) []string { return []string{"no node"} }, api.ErrBroken},
		"round":                    {func(first uint32) []string { return []string{branch(first, "m", first)} }, api.ErrBroken},
		"a free page at the end":   {func(first uint32) []string { return []string{branch(first+1, "m", 100), leaf(key, value)} }, api.ErrFree},
		"a free page at the front": {func(first uint32) []string { return []string{branch(100, "\x00", first+1), leaf(key, value)} }, api.ErrFree},
		"a page that there is not": {func(first uint32) []string { return []string{branch(first+1, "m", 5000), leaf(key, value)} }, api.ErrArg},
		"keys that do not rise": {func(first uint32) []string {
			return []string{branch(first+1, "m", first+2), leaf(key, value), leaf("\x00", "")}
		}, api.ErrBroken},
		"and a cell that is none":   {func(first uint32) []string { return []string{branch(first+1, "m", 100), leaf(key, "none")} }, api.ErrFree},
		"and a key behind the free": {func(first uint32) []string { return []string{branch(100, "m", first+1), leaf("z", "none")} }, api.ErrFree},
	} {
		for _, n := range []int{0, 2005, 4095} {
			asked(t, what, func(w *world) { lay(t, w.s, objectsRoot, c.bodies) }, n, c.e, c.e)
		}
	}
}

// A table that does not break and is not sound is gone through from its beginning on: no cell is missed that going down to its key would miss.
func TestObjectsThatAreNotSound(t *testing.T) {
	w := plain(t)
	w.put("x", "a", "b", keyIn(3000))
	key, value := cellOf(t, "a")
	other, its := cellOf(t, keyIn(3000))
	lay(t, w.s, objectsRoot, func(first uint32) []string {
		return []string{branch(first+1, "\x01", first+2), leaf(key, value), leaf(other, its)}
	})
	delete(w.objects, "b")
	w.hasEntries("not sound")
	w.hasSnapshot("not sound")
	w.refresh()
	w.holds("not sound")
}

// What the store says goes to the face.
func TestTellingMeetsTheStore(t *testing.T) {
	for _, e := range []api.Errno{api.ErrPower, api.ErrDone} {
		w := plain(t)
		w.put("x", "a")
		w.d.Fuse(0)
		if e == api.ErrPower {
			want(t, "Sync", w.d.Sync(), e)
		} else {
			b := w.s.Begin()
			wantOK(t, "SetRoot", b.SetRoot(5, w.s.Root(objectsRoot)))
			want(t, "Commit", b.Commit(), api.ErrPower)
			w.d.Crash(api.Fate{})
		}
		l, f := w.h.Entries(2005)
		want(t, "Entries", f, e)
		snap, f := w.h.Snapshot()
		want(t, "Snapshot", f, e)
		if l != nil || snap != nil {
			t.Errorf("%v, %v beside %v", l, snap, e)
		}
		want(t, "Refresh", w.h.Refresh(), e)
		w.tells("refused")
	}
	w := plain(t)
	w.put("x", "a")
	w.refresh()
	w.d.Fuse(0)
	want(t, "Sync", w.d.Sync(), api.ErrPower)
	sum, e := w.h.Sum(0)
	if sum != "" || e != api.ErrPower {
		t.Errorf("Sum: %x, %v", sum, e)
	}
}
