package hashtree_test

import (
	"math"
	"math/rand"
	"testing"

	"concord/api"
	"concord/btree"
	"concord/hashtree"
	"concord/store"
)

// noSegments are numbers that are no segment's.
func noSegments() []int { return []int{-1, 4096, 4097, 65536, 1 << 32, math.MinInt, math.MaxInt} }

// P17.3: what Touch and Touched refuse, in which order.
func TestTouchArguments(t *testing.T) {
	w := plain(t)
	var none *hashtree.Tree
	b := w.s.Begin()
	want(t, "Touch of no tree", none.Touch(b, 0), api.ErrNil)
	want(t, "Touched of no tree", none.Touched(0), api.ErrNil)
	for _, n := range noSegments() {
		want(t, "Touch of no batch", w.h.Touch(nil, n), api.ErrNil)
		want(t, "Touch", w.h.Touch(b, n), api.ErrArg)
		want(t, "Touched", w.h.Touched(n), api.ErrArg)
		want(t, "Touch of neither", none.Touch(nil, n), api.ErrNil)
	}
	if b.Size() != 0 {
		t.Errorf("the batch has %d pages", b.Size())
	}
	w.holds("behind these")
}

// P17.3: of a closed tree the mark goes with the batch: there behind its Commit, nowhere behind its Drop.
func TestTouchLaysTheMark(t *testing.T) {
	for _, n := range []int{0, 1, 2005, 4095} {
		w := plain(t)
		b, _ := w.batch(edit{key: keyIn(n), value: "x"})
		if mark, _, _ := btree.Look(b, b.Root(marksRoot)).Get("mark"); mark != "\x00" {
			t.Errorf("in the batch the mark is %x", mark)
		}
		w.holds("ahead of the commit")
		b.Drop()
		w.holds("dropped")
		w.again()
		w.holds("dropped, and opened again")

		b, after := w.batch(edit{key: keyIn(n), value: "x"})
		wantOK(t, "Commit", b.Commit())
		w.committed(after)
		w.closed = false // the mark lies open, whatever Touched says
		w.tells("ahead of Touched")
		w.touched(edit{key: keyIn(n)})
		w.holds("committed")
	}
}

// P17.3: a tree that is not closed has nothing to lay down.
func TestTouchOfAnOpenTree(t *testing.T) {
	w := plain(t)
	w.put("x", keyIn(7))
	untouched := func(what string) {
		t.Helper()
		b := w.s.Begin()
		wantOK(t, what, w.h.Touch(b, 9))
		if b.Size() != 0 {
			t.Errorf("%s: %d pages", what, b.Size())
		}
		b.Drop()
		wantOK(t, what+": a batch that has ended", w.h.Touch(b, 9))
		w.holds(what)
	}
	untouched("one that waits")
	w.again()
	untouched("one that is not valid")
	w.begin()
	untouched("one that is made anew")
}

// P17.3: what the store says.
func TestTouchMeetsTheStore(t *testing.T) {
	w := plain(t)
	b := w.s.Begin()
	b.Drop()
	want(t, "a batch that has ended", w.h.Touch(b, 0), api.ErrDone)
	want(t, "a batch of no store", w.h.Touch(new(store.Batch), 0), api.ErrDone)
	w.holds("behind these")
}

// P17.3: Touched makes a segment wait, each once, if the tree is valid or is made anew.
func TestTouchedWaits(t *testing.T) {
	w := plain(t)
	w.put("x", keyIn(9), keyIn(0), keyIn(9), keyIn(4095))
	if w.h.Dirty() != 3 {
		t.Errorf("Dirty %d", w.h.Dirty())
	}
	w.holds("valid")
	w.again()
	w.put("y", keyIn(9), keyIn(1))
	if w.h.Dirty() != 0 || w.h.Valid() {
		t.Errorf("Dirty %d", w.h.Dirty())
	}
	w.holds("not valid")
	w.begin()
	w.rehash(9, 1, 4095)
	w.put("z", keyIn(9))
	if w.h.Dirty() != 4094 {
		t.Errorf("Dirty %d", w.h.Dirty())
	}
	w.holds("made anew")
	w.finish()
	w.holds("finished")
}

// P17.2: which segment is the next that waits.
func TestNext(t *testing.T) {
	w := plain(t)
	for _, from := range []int{math.MinInt, -1, 0, 4095, 4096, math.MaxInt} {
		if n, ok := w.h.Next(from); n != 0 || ok {
			t.Errorf("Next(%d) of a closed tree: %d, %v", from, n, ok)
		}
	}
	w.put("x", keyIn(5), keyIn(4095), keyIn(700))
	for from, next := range map[int]int{math.MinInt: 5, -1: 5, 0: 5, 5: 5, 6: 700, 700: 700, 701: 4095, 4095: 4095} {
		if n, ok := w.h.Next(from); n != next || !ok {
			t.Errorf("Next(%d): %d, %v, want %d", from, n, ok, next)
		}
	}
	for _, from := range []int{4096, 5000, 1<<32 + 5, math.MaxInt} {
		if n, ok := w.h.Next(from); n != 0 || ok {
			t.Errorf("Next(%d): %d, %v", from, n, ok)
		}
	}
}

// P17.2: of no tree all that is told is nothing, and what answers an error answers ErrNil.
func TestNoTree(t *testing.T) {
	var none *hashtree.Tree
	n, ok := none.Next(0)
	if none.Width() != 0 || none.Valid() || none.Closed() || none.Dirty() != 0 || none.Building() || n != 0 || ok {
		t.Error("something is told")
	}
	l, e := none.Entries(-1)
	want(t, "Entries", e, api.ErrNil)
	snap, e := none.Snapshot()
	want(t, "Snapshot", e, api.ErrNil)
	sum, e := none.Sum(5000)
	want(t, "Sum", e, api.ErrNil)
	if l != nil || snap != nil || sum != "" {
		t.Errorf("%v, %v, %q", l, snap, sum)
	}
	want(t, "Refresh", none.Refresh(), api.ErrNil)
	want(t, "Begin", none.Begin(), api.ErrNil)
	want(t, "Rehash", none.Rehash(-1), api.ErrNil)
	want(t, "Finish", none.Finish(), api.ErrNil)
}

// P17.2, P17.3, P17.5, P17.6, P17.7: drawn runs, held against what there must be behind each step.
func TestDrawnRuns(t *testing.T) {
	met := map[string]int{}
	for seed := range int64(60) {
		r := rand.New(rand.NewSource(seed))
		w := fresh(t, 200, api.Journal, 1+r.Intn(32))
		for range 40 {
			what := w.step(r)
			met[what]++
			if met[what]%3 == 0 || met[what] < 20 {
				w.holds(what)
			} else {
				w.tells(what)
			}
		}
		w.holds("at the end")
	}
	for _, what := range []string{"change", "refresh", "begin", "rehash", "finish", "again", "refused", "dropped"} {
		if met[what] < 20 {
			t.Errorf("%s: %d times: the test has lost its weight", what, met[what])
		}
	}
}

// step does one thing to the tree that there may be, and tells which.
func (w *world) step(r *rand.Rand) string {
	w.t.Helper()
	switch r.Intn(12) {
	case 0, 1, 2, 3:
		w.change(w.someEdits(r, 3)...)
		return "change"
	case 4:
		b, _ := w.batch(w.someEdits(r, 3)...)
		b.Drop()
		return "dropped"
	case 5, 6:
		if w.valid {
			w.refresh()
			return "refresh"
		}
		want(w.t, "Refresh", w.h.Refresh(), api.ErrInvalid)
		return "refused"
	case 7:
		w.begin()
		return "begin"
	case 8, 9:
		if w.building {
			w.rehash(r.Intn(8), r.Intn(4096), 2000+16*r.Intn(4))
			return "rehash"
		}
		want(w.t, "Rehash", w.h.Rehash(r.Intn(4096)), api.ErrDone)
		return "refused"
	case 10:
		if w.building {
			w.finish()
			return "finish"
		}
		want(w.t, "Finish", w.h.Finish(), api.ErrDone)
		return "refused"
	}
	w.again()
	return "again"
}
