package hashtree_test

import (
	"fmt"
	"maps"
	"math/rand"
	"slices"
	"testing"

	"concord/api"
	"concord/disk"
	"concord/hashtree"
	"concord/object"
	"concord/store"
)

// someFate is one that leaves any part of n pending writes.
func someFate(r *rand.Rand, n int) api.Fate {
	fate := api.Fate{Torn: r.Intn(n+2) - 1, Cut: r.Intn(131) - 1}
	all := r.Intn(3)
	for range n {
		fate.Keep = append(fate.Keep, all == 0 || all == 1 && r.Intn(2) == 0)
	}
	return fate
}

// reopened opens store and tree, which is broken off at each fuse, in some way, ahead of that.
func reopened(t *testing.T, r *rand.Rand, d *disk.Disk, journal, width int) (*store.Store, *hashtree.Tree) {
	t.Helper()
	for fuse := 0; ; fuse++ {
		d.Fuse(fuse)
		s, e := store.Open(d, journal)
		if e == api.OK {
			var h *hashtree.Tree
			if h, e = hashtree.Open(s, width); e == api.OK {
				d.Fuse(-1)
				return s, h
			}
		}
		want(t, "Open", e, api.ErrPower)
		d.Crash(someFate(r, d.Pending()))
	}
}

// objectsIn are the objects that lie in a store.
func objectsIn(t *testing.T, s *store.Store) objects {
	t.Helper()
	o := objects{}
	for key, value := range cells(t, s, objectsRoot) {
		x, e := object.Unpack(api.Cell{Key: key, Value: value})
		wantOK(t, "Unpack", e)
		o[x.Key] = x.State
	}
	return o
}

func same(a, b objects) bool {
	return maps.EqualFunc(a, b, func(x, y api.State) bool {
		return object.Same(api.Object{Key: "k", State: x}, api.Object{Key: "k", State: y})
	})
}

// run does a drawn script up to the end of the power: the call that met it, what the objects were, and what they may be.
func run(t *testing.T, r *rand.Rand, w *world, steps int) (met string, was, may objects) {
	t.Helper()
	h, e := hashtree.Open(w.s, w.width)
	if e != api.OK {
		return "Open", w.objects, w.objects
	}
	w.h = h
	for range steps {
		may = w.objects
		switch k := r.Intn(10); {
		case k < 4:
			met = "change"
			may, e = w.tryChange(r)
		case k < 6 && h.Valid():
			met, e = "Refresh", h.Refresh()
		case k < 7:
			met, e = "Begin", h.Begin()
		case k < 9 && h.Building():
			met, e = "Rehash", h.Rehash([]int{2000, 2016, 1, 2, 3}[r.Intn(5)])
		case h.Building():
			met, e = "Finish", h.Finish()
		}
		if e != api.OK {
			want(t, met, e, api.ErrPower)
			return met, w.objects, may
		}
		w.objects = may
		w.believed(met)
	}
	return "", w.objects, w.objects
}

// tryChange changes some objects in a batch, and tells what they are behind it.
func (w *world) tryChange(r *rand.Rand) (objects, api.Errno) {
	edits := w.someEdits(r, 2)
	b, after := w.batch(edits...)
	if e := b.Commit(); e != api.OK {
		return after, e
	}
	w.touched(edits...)
	return after, api.OK
}

// believed holds what may be believed against the objects.
func (w *world) believed(what string) {
	w.t.Helper()
	if w.h.Closed() {
		if !w.h.Valid() || w.h.Dirty() != 0 || w.h.Building() {
			w.t.Fatalf("%s: closed, and valid %v, Dirty %d, Building %v", what, w.h.Valid(), w.h.Dirty(), w.h.Building())
		}
		if got := cells(w.t, w.s, sumsRoot); !maps.Equal(got, w.objects.sums(w.width)) {
			w.t.Fatalf("%s: closed, and the sums are %x, want %x", what, got, w.objects.sums(w.width))
		}
	}
	if w.h.Valid() {
		snap, e := w.h.Snapshot()
		wantOK(w.t, "Snapshot", e)
		if told := unlike(snap, w.objects, w.width); told != "" {
			w.t.Fatalf("%s: %s", what, told)
		}
	}
}

// P17.7: drawn scripts, broken off at each fuse, with drawn fates of what was pending; and the Opens behind that are broken off, too.
func TestPower(t *testing.T) {
	met := map[string]int{}
	for seed := range int64(16) {
		journal, width := []int{24, 12, 40}[seed%3], 1+int(seed*5)%32
		for fuse := 0; ; fuse++ {
			r := rand.New(rand.NewSource(seed))
			w := &world{t: t, journal: journal, wanted: wanted{width: width, objects: objects{}, marks: map[string]string{}, waits: map[int]bool{}}}
			w.d, w.s = blank(t, 120, journal)
			w.d.Fuse(fuse)
			call, was, may := run(t, r, w, 14)
			if call == "" {
				break
			}
			r = rand.New(rand.NewSource(seed + 1000*int64(fuse)))
			w.d.Crash(someFate(r, w.d.Pending()))
			w.s, w.h = reopened(t, r, w.d, journal, width)
			w.objects = objectsIn(t, w.s)
			if !same(w.objects, was) && !same(w.objects, may) {
				t.Fatalf("seed %d, fuse %d: behind %s the objects are %s, want %s or %s", seed, fuse, call, w.objects.told(), was.told(), may.told())
			}
			met[call]++
			met[fmt.Sprint(call, " closed ", w.h.Closed())]++
			w.afterPower(fmt.Sprintf("seed %d, fuse %d, behind %s", seed, fuse, call))
		}
	}
	for _, what := range []string{"Open closed true", "change closed true", "change closed false", "Refresh closed true", "Refresh closed false",
		"Begin closed true", "Begin closed false", "Rehash closed false", "Finish closed true", "Finish closed false"} {
		if met[what] < 3 {
			t.Errorf("%s: %d times: the test has lost its weight: %v", what, met[what], met)
		}
	}
}

// afterPower holds what may be believed behind Open, and makes the tree anew where nothing may.
func (w *world) afterPower(what string) {
	w.t.Helper()
	if w.h.Valid() != w.h.Closed() || w.h.Dirty() != 0 || w.h.Building() {
		w.t.Fatalf("%s: valid %v, closed %v, Dirty %d, Building %v", what, w.h.Valid(), w.h.Closed(), w.h.Dirty(), w.h.Building())
	}
	w.believed(what)
	if w.h.Valid() {
		return
	}
	want(w.t, what+": Refresh", w.h.Refresh(), api.ErrInvalid)
	wantOK(w.t, what+": Begin", w.h.Begin())
	wantOK(w.t, what+": Finish", w.h.Finish())
	if !w.h.Closed() {
		w.t.Fatalf("%s: made anew, and not closed", what)
	}
	w.believed(what + ", made anew")
}

// P17.5, P17.7: a Refresh that takes several batches, broken off at each fuse: some of the new sums lie there already, and nobody may believe them.
func TestPowerAmidManyBatches(t *testing.T) {
	first := func(fuse int) (*world, map[string]string, api.Errno) {
		w := fresh(t, 300, 9, 32)
		for i := range 25 {
			w.put("x", keyIn(160*i))
		}
		w.refresh()
		old := maps.Clone(w.sums)
		for i := range 25 {
			w.change(edit{key: keyIn(160 * i), value: "y", gone: i%5 == 0})
		}
		w.d.Fuse(fuse)
		return w, old, w.h.Refresh()
	}
	seen := map[string]int{}
	r := rand.New(rand.NewSource(177))
	for fuse := 0; ; fuse++ {
		w, old, e := first(fuse)
		if e == api.OK {
			break
		}
		want(t, "Refresh", e, api.ErrPower)
		w.d.Crash(someFate(r, w.d.Pending()))
		w.s, w.h = reopened(t, r, w.d, 9, 32)
		lies, must := cells(t, w.s, sumsRoot), w.objects.sums(32)
		switch {
		case maps.Equal(lies, must):
			seen["new"]++
		case maps.Equal(lies, old):
			seen["old"]++
		default:
			seen["between"]++
		}
		if w.h.Closed() && !maps.Equal(lies, must) {
			t.Fatalf("fuse %d: closed", fuse)
		}
		w.afterPower(fmt.Sprint("fuse ", fuse))
	}
	if seen["old"] == 0 || seen["between"] < 10 {
		t.Errorf("%v: the test has lost its weight", seen)
	}
}

// R2: what lies on the disk behind a run hangs on what was done alone.
func TestTheSameTwice(t *testing.T) {
	for seed := range int64(4) {
		var lies []string
		for range 3 {
			r := rand.New(rand.NewSource(seed))
			w := fresh(t, 300, 24, 32)
			for i := range 40 {
				w.put("x", keyIn(100*i+r.Intn(100)))
			}
			w.refresh()
			for range 20 {
				w.step(r)
			}
			w.begin()
			strangeSums(w, r)
			w.finish()
			if lies != nil && !slices.Equal(lies, w.d.Durable()) {
				t.Fatalf("seed %d: two runs have left unlike disks", seed)
			}
			lies = w.d.Durable()
		}
	}
}
