package rebuild_test

import (
	"fmt"
	"math/rand"
	"slices"
	"sync/atomic"
	"testing"

	"concord/api"
	"concord/cancel"
	"concord/hashtree"
	"concord/rebuild"
)

func wantAudit(t *testing.T, what string, w *world, k *cancel.Token, workers int, nodes []uint16, e api.Errno) {
	t.Helper()
	got, error := rebuild.Audit(k, w.h, workers)
	if !slices.Equal(got, nodes) || error != e {
		t.Errorf("%s: Audit with %d workers: %v, %v; want %v, %v", what, workers, got, error, nodes, e)
	}
}

// wrong are the nodes whose sums, as they lie, are not those of the objects.
func (w *world) wrong() []uint16 {
	w.t.Helper()
	var l []uint16
	lies, must := w.cells(sumsRoot), w.must()
	for node := range 4369 {
		if key := keyOf(node); lies[key] != must[key] {
			l = append(l, uint16(node))
		}
	}
	return l
}

// P19.5: of a tree that waits to be refreshed the nodes over what has changed are told, and none other.
func TestAuditOfWhatWaits(t *testing.T) {
	w := plain(t)
	wantAudit(t, "without objects", w, nil, 1, nil, api.OK)
	w.put("x", keyIn(0))
	wantAudit(t, "the first", w, nil, 1, []uint16{0, 1, 17, 273}, api.OK)
	w.put("x", keyIn(4095))
	wantAudit(t, "the last", w, nil, 16, []uint16{0, 1, 16, 17, 272, 273, 4368}, api.OK)
	wantOK(t, "Refresh", w.h.Refresh())
	wantAudit(t, "refreshed", w, nil, 16, nil, api.OK)
	wantOK(t, "change", w.change(keyIn(0), "", true))
	wantAudit(t, "taken away", w, nil, 3, []uint16{0, 1, 17, 273}, api.OK)
	w.put("y", keyIn(1))
	wantAudit(t, "beside it", w, nil, 3, []uint16{0, 1, 17, 273, 274}, api.OK)
	wantOK(t, "Refresh", w.h.Refresh())
	wantAudit(t, "refreshed again", w, nil, 3, nil, api.OK)
}

// P19.5, P19.8: drawn trees, over whose sums others have written: with any number of workers those are told that differ.
func TestAudit(t *testing.T) {
	told := 0
	for seed := range int64(10) {
		r := rand.New(rand.NewSource(seed))
		w := fresh(t, 300, api.Journal, 1+r.Intn(32))
		for range r.Intn(20) {
			w.put(fmt.Sprint(r.Intn(100)), keyIn(r.Intn(4096)), keyIn(16*r.Intn(4)))
		}
		wantOK(t, "Refresh", w.h.Refresh())
		wantAudit(t, "closed", w, nil, 1+r.Intn(16), nil, api.OK)
		for range r.Intn(3) {
			w.put("y", keyIn(r.Intn(4096)))
		}
		wantAudit(t, "changed", w, nil, 1+r.Intn(16), w.wrong(), api.OK)
		w.strangeSums(r)
		must := w.wrong()
		told += len(must)
		for _, workers := range []int{1, 2, 3, 8, 16} {
			wantAudit(t, fmt.Sprint("seed ", seed), w, cancel.New(), workers, must, api.OK)
		}
	}
	if told < 100 {
		t.Errorf("%d were told: the test has lost its weight", told)
	}
}

// P19.5: a sum that lies where none must be is told, and one that is missing; a cell of the empty text is as none.
func TestAuditEdges(t *testing.T) {
	w := plain(t)
	w.put("x", "a")
	wantOK(t, "Refresh", w.h.Refresh())
	w.strange(sumsRoot, sumKey(3, 7), "", false)
	wantAudit(t, "the empty text", w, nil, 2, nil, api.OK)
	w.strange(sumsRoot, sumKey(3, 4095), "four", false)
	w.strange(sumsRoot, sumKey(0, 0), "", true)
	w.strange(sumsRoot, sumKey(1, 7), "", false)
	w.strange(sumsRoot, sumKey(3, 2005), "long and wrong", false)
	w.strange(sumsRoot, sumKey(3, 4096), "no node's", false)
	w.strange(sumsRoot, "zz", "no node's", false)
	wantAudit(t, "strange sums", w, nil, 2, []uint16{0, 8, 2278, 4368}, api.OK)
	wantOK(t, "Begin", w.h.Begin())
	wantOK(t, "Finish", w.h.Finish())
	wantAudit(t, "made anew", w, nil, 2, nil, api.OK)
}

// P19.5: what is wrong, in the order that the chapter tells.
func TestAuditArguments(t *testing.T) {
	off, wrong := cancelled(api.ErrDown), []int{0, -1, 17, 1 << 40}
	none := &world{}
	for _, workers := range append(wrong, 1, 16) {
		wantAudit(t, "no tree", none, nil, workers, nil, api.ErrNil)
		wantAudit(t, "no tree, and cancelled", none, off, workers, nil, api.ErrNil)
	}
	w := exampled(t)
	for _, workers := range append(wrong, 1, 16) {
		wantAudit(t, "not valid", w, off, workers, nil, api.ErrInvalid)
	}
	j := w.job()
	wantAudit(t, "being made anew", w, off, 0, nil, api.ErrInvalid)
	wantStep(t, "all", j, nil, 4096, 0, api.OK)
	for _, workers := range wrong {
		wantAudit(t, "the workers", w, nil, workers, nil, api.ErrArg)
		wantAudit(t, "the workers, and cancelled", w, off, workers, nil, api.ErrArg)
	}
	wantAudit(t, "cancelled", w, off, 1, nil, api.ErrDown)
	wantAudit(t, "cancelled from above", w, cancel.Under(off), 16, nil, api.ErrDown)
	w.brokenSums(api.ErrFree, api.ErrBroken, sumKey(2, 0))
	wantAudit(t, "broken sums, and no workers", w, off, 0, nil, api.ErrArg)
	wantAudit(t, "broken sums, and cancelled", w, off, 1, nil, api.ErrDown)
	w.strange(objectsRoot, two(500)+"no object", "of no form", false)
	for _, workers := range append(wrong, 1, 16) {
		wantAudit(t, "broken objects, and all else", w, off, workers, nil, api.ErrBroken)
	}
}

// brokenSums lays down a table of sums that answers one error below a key, and another from there on; OK: there it is empty.
func (w *world) brokenSums(below, from api.Errno, key string) {
	w.t.Helper()
	w.handmade(sumsRoot, func(first uint32) []string {
		kid := map[api.Errno]uint32{api.OK: first + 1, api.ErrBroken: first + 2, api.ErrFree: 150}
		return []string{branch(kid[below], key, kid[from]), leaf("\x00", "strange"), "no node"}
	})
}

// P19.5: of several nodes at which the tree answers an error the least one's is told.
func TestAuditMeetsBrokenSums(t *testing.T) {
	for _, c := range []struct{ below, from, e api.Errno }{
		{api.ErrFree, api.ErrBroken, api.ErrFree},
		{api.ErrBroken, api.ErrFree, api.ErrBroken},
		{api.OK, api.ErrFree, api.ErrFree},
		{api.OK, api.ErrBroken, api.ErrBroken},
		{api.ErrFree, api.OK, api.ErrFree},
	} {
		for _, key := range []string{sumKey(1, 0), sumKey(2, 100), sumKey(3, 0), sumKey(3, 4095)} {
			w := plain(t)
			w.put("x", "a")
			wantOK(t, "Refresh", w.h.Refresh())
			w.brokenSums(c.below, c.from, key)
			for _, workers := range []int{1, 2, 16} {
				apart(t, func(t *testing.T) {
					wantAudit(t, fmt.Sprintf("%v below %x, %v from there on", c.below, key, c.from), w, cancel.New(), workers, nil, c.e)
				})
			}
		}
	}
}

// P19.5: it writes nothing, and a batch that is on goes on.
func TestAuditWritesNothing(t *testing.T) {
	w := plain(t)
	w.put("x", "a", keyIn(9))
	wantOK(t, "Refresh", w.h.Refresh())
	w.put("y", "a")
	lies, b := w.d.Durable(), w.s.Begin()
	w.ear.write = func(n int) { t.Errorf("the page %d is written", n) }
	for _, workers := range []int{1, 7, 16} {
		wantAudit(t, "once and again", w, nil, workers, []uint16{0, 8, 142, 2278}, api.OK)
	}
	if _, e := b.Read(0); e == api.ErrDone || !slices.Equal(w.d.Durable(), lies) || w.d.Pending() > 0 {
		t.Errorf("something was written: %v", e)
	}
	if w.h.Dirty() != 1 || !w.h.Valid() || w.h.Closed() {
		t.Errorf("Dirty %d, Valid %v, Closed %v", w.h.Dirty(), w.h.Valid(), w.h.Closed())
	}
}

// P19.5: cancelled while the objects are read it answers the reason; while the sums are, the reason or what it would have answered.
func TestAuditCancelledMeanwhile(t *testing.T) {
	w := plain(t)
	w.put("x", "a", keyIn(9), keyIn(4000))
	wantOK(t, "Refresh", w.h.Refresh())
	w.put("y", "a")
	must := w.wrong()
	reads := func() (all, ahead int64) {
		var n atomic.Int64
		w.ear.read = func(int) { n.Add(1) }
		wantAudit(t, "counted", w, nil, 1, must, api.OK)
		all = n.Swap(0)
		_, e := w.h.Snapshot()
		wantOK(t, "Snapshot", e)
		return all, n.Load()
	}
	all, ahead := reads()
	if ahead < 1 || all < ahead+4369 {
		t.Fatalf("%d reads, %d of them of the objects: the test is wrong", all, ahead)
	}
	r := rand.New(rand.NewSource(195))
	reasons := 0
	for round := range 60 {
		at := 1 + r.Int63n(all)
		if round < 10 {
			at = 1 + r.Int63n(ahead)
		}
		workers := 1 + r.Intn(16)
		apart(t, func(t *testing.T) {
			var n atomic.Int64
			k := cancel.New()
			w.ear.read = func(int) {
				if n.Add(1) == at {
					k.Cancel(api.ErrTries)
				}
			}
			got, e := rebuild.Audit(k, w.h, workers)
			switch {
			case e == api.ErrTries && got == nil:
				reasons++
			case e == api.OK && slices.Equal(got, must) && at > ahead:
			default:
				t.Errorf("cancelled at the read %d of %d: %v, %v", at, all, got, e)
			}
		})
	}
	if reasons < 10 {
		t.Errorf("%d reasons: the test has lost its weight", reasons)
	}
}

// P19.5: several may look the tree over at one time, for nothing is written.
func TestAuditsAtOneTime(t *testing.T) {
	w := plain(t)
	w.put("x", "a", keyIn(9), keyIn(4000))
	wantOK(t, "Refresh", w.h.Refresh())
	w.put("y", "a")
	must := w.wrong()
	e := cancel.Each(nil, 4, 8, func(i int) api.Errno {
		wantAudit(t, "at one time", w, nil, 1+i, must, api.OK)
		return api.OK
	})
	want(t, "all", e, api.OK)
}

// R1, R3: trees and tokens that came out of no call; what is told is new memory.
func TestAuditOfAnything(t *testing.T) {
	rebuild.Audit(nil, new(hashtree.Tree), 3)
	w := plain(t)
	w.put("x", "a")
	rebuild.Audit(new(cancel.Token), w.h, 3)
	first, e := rebuild.Audit(nil, w.h, 3)
	wantOK(t, "Audit", e)
	clear(first[:cap(first)])
	wantAudit(t, "again", w, nil, 3, []uint16{0, 8, 142, 2278}, api.OK)
	w.d.Fuse(0)
	b := w.s.Begin()
	want(t, "Commit", b.Commit(), api.OK)
	got, e := rebuild.Audit(nil, w.h, 3)
	if e == api.OK && !slices.Equal(got, []uint16{0, 8, 142, 2278}) || e != api.OK && got != nil {
		t.Errorf("without power: %v, %v", got, e)
	}
}
