package rebuild_test

import (
	"fmt"
	"maps"
	"math/rand"
	"slices"
	"testing"

	"concord/api"
	"concord/cancel"
	"concord/rebuild"
)

// someWorld has some objects, and sums that others have written.
func someWorld(t *testing.T, r *rand.Rand) *world {
	t.Helper()
	w := fresh(t, 300, []int{24, 12, 40}[r.Intn(3)], 1+r.Intn(32))
	for range r.Intn(12) {
		w.put(fmt.Sprint(r.Intn(100)), keyIn(r.Intn(4096)), keyIn(r.Intn(3)), keyIn(4095))
	}
	if r.Intn(2) == 0 {
		wantOK(t, "Refresh", w.h.Refresh())
	}
	for range r.Intn(4) {
		w.put("y", keyIn(r.Intn(4096)))
	}
	if r.Intn(2) == 0 {
		w.again()
	}
	w.strangeSums(r)
	return w
}

// P19.6: whatever lay there, in drawn steps, with drawn tokens, and with puts between.
func TestMadeAnew(t *testing.T) {
	seen := map[string]int{}
	for seed := range int64(24) {
		r := rand.New(rand.NewSource(seed))
		w := someWorld(t, r)
		j := w.job()
		for next := 0; next < 4096; {
			n := 1 + r.Intn(2000)
			switch r.Intn(6) {
			case 0:
				seen["cancelled"]++
				wantStep(t, "cancelled", j, cancelled(api.ErrDown), n, 0, api.ErrDown)
				if j.Left() != 4096-next {
					t.Fatalf("seed %d: Left %d, want %d", seed, j.Left(), 4096-next)
				}
			case 1:
				next = w.cancelledAmid(r, j, next, n)
				seen["cancelled amid"]++
			case 2:
				seen["changed"]++
				key := keyIn(r.Intn(4096))
				_, is := w.objects()[key]
				wantOK(t, "change", w.change(key, fmt.Sprint(seed), is))
			case 3:
				seen["strange"]++
				w.strangeSums(r)
			default:
				next = min(next+n, 4096)
				wantStep(t, fmt.Sprint("seed ", seed), j, cancel.New(), n, 4096-next, api.OK)
			}
			if w.h.Valid() != (next == 4096) {
				t.Fatalf("seed %d, at %d: Valid %v", seed, next, w.h.Valid())
			}
		}
		w.made(fmt.Sprint("seed ", seed))
		over(t, fmt.Sprint("seed ", seed), j)
	}
	for _, what := range []string{"cancelled", "cancelled amid", "changed", "strange"} {
		if seen[what] < 10 {
			t.Errorf("%v: the test has lost its weight", seen)
		}
	}
}

// cancelledAmid takes a Step whose token is cancelled on the way; with which segment the job goes on.
func (w *world) cancelledAmid(r *rand.Rand, j *rebuild.Job, next, n int) int {
	w.t.Helper()
	reads, most := 0, 1+r.Intn(3000)
	k := cancel.New()
	w.ear.read = func(int) {
		if reads++; reads == most {
			k.Cancel(api.ErrTries)
		}
	}
	left, e := j.Step(k, n)
	w.ear.read = nil
	switch {
	case e == api.OK && left != 4096-min(next+n, 4096), e != api.OK && (left != 0 || e != api.ErrTries || !k.Off()):
		w.t.Fatalf("cancelled amid: %d, %v", left, e)
	case e == api.OK:
		return 4096 - left
	}
	if now := 4096 - j.Left(); now < next || now >= min(next+n, 4096) {
		w.t.Fatalf("cancelled amid: it goes on with %d, and was at %d, and was to do %d", now, next, n)
	}
	return 4096 - j.Left()
}

// P19.6: a table of sums that is not sound, or breaks, is made anew, or tells its break and leaves the job over.
func TestAnewOverBrokenSums(t *testing.T) {
	for what, bodies := range map[string]func(first uint32) []string{
		"keys on the wrong side": func(first uint32) []string {
			return []string{branch(first+1, sumKey(2, 0), first+2), leaf(sumKey(0, 0), "no", sumKey(3, 5), "no"), leaf(sumKey(3, 6), "no")}
		},
		"keys that fall": func(first uint32) []string {
			return []string{branch(first+1, sumKey(2, 0), first+2), leaf(sumKey(3, 5), "no"), leaf(sumKey(0, 0), "no")}
		},
		"an empty leaf": func(uint32) []string { return []string{leaf()} },
		"no node":       func(uint32) []string { return []string{"no node"} },
		"a free page": func(first uint32) []string {
			return []string{branch(first+1, sumKey(3, 3000), 150), leaf(sumKey(0, 0), "no")}
		},
	} {
		w := unbelieved(t, 7, 3500)
		w.handmade(sumsRoot, bodies)
		j := w.job()
		if _, e := j.Step(nil, 4096); e == api.OK {
			w.made(what)
		} else if what == "an empty leaf" || what == "keys on the wrong side" {
			t.Errorf("%s: %v", what, e)
		}
		over(t, what, j)
	}
}

// someFate is one that leaves any part of n pending writes.
func someFate(r *rand.Rand, n int) api.Fate {
	fate := api.Fate{Torn: r.Intn(n+2) - 1, Cut: r.Intn(131) - 1}
	all := r.Intn(3)
	for range n {
		fate.Keep = append(fate.Keep, all == 0 || all == 1 && r.Intn(2) == 0)
	}
	return fate
}

// P19.6: the power goes at each fuse of a rebuild. The job is over, the tree is not valid; opened again it is not valid either, or closed, where the last batch of Finish was under way; a later job makes it anew.
func TestAnewBehindThePower(t *testing.T) {
	r := rand.New(rand.NewSource(196))
	seen := map[string]int{}
	for _, steps := range []int{4096, 1500} {
		for fuse := 0; ; fuse++ {
			w := unbelieved(t, 7, 2005, 4095)
			j := w.job()
			w.d.Fuse(fuse)
			e := stepped(j, steps)
			if e == api.OK {
				w.d.Fuse(-1)
				w.made("through")
				break
			}
			what := fmt.Sprintf("steps of %d, fuse %d", steps, fuse)
			want(t, what, e, api.ErrPower)
			over(t, what, j)
			if w.h.Valid() {
				t.Fatalf("%s: valid without power", what)
			}
			seen["power"]++
			finishing := w.h.Dirty() == 0
			w.d.Crash(someFate(r, w.d.Pending()))
			w.again()
			if w.h.Valid() {
				seen["closed"]++
				if !finishing {
					t.Fatalf("%s: valid behind the power", what)
				}
				w.made(what)
				continue
			}
			wantStep(t, what, w.job(), nil, 4096, 0, api.OK)
			w.made(what)
		}
	}
	if seen["power"] < 30 {
		t.Errorf("%v: the test has lost its weight", seen)
	}
}

// stepped goes through a job by steps, up to its end or an error.
func stepped(j *rebuild.Job, steps int) api.Errno {
	for {
		if left, e := j.Step(nil, steps); e != api.OK || left == 0 {
			return e
		}
	}
}

// P19.6, P19.3: stopped and begun over and over, each time by a new job.
func TestStoppedOverAndOver(t *testing.T) {
	w := unbelieved(t, 7, 2005, 4095)
	r := rand.New(rand.NewSource(193))
	for range 12 {
		j, n := w.job(), 1+r.Intn(4095)
		wantStep(t, "a part", j, nil, n, 4096-n, api.OK)
		j.Stop()
	}
	wantStep(t, "all", w.job(), nil, 4096, 0, api.OK)
	w.made("all")
}

// R2: what lies on the disk behind a rebuild hangs on what was done alone.
func TestTheSameTwice(t *testing.T) {
	for seed := range int64(3) {
		var lies []string
		for range 3 {
			r := rand.New(rand.NewSource(seed))
			w := someWorld(t, r)
			want(t, "stepped", stepped(w.job(), 1000), api.OK)
			if lies != nil && !slices.Equal(lies, w.d.Durable()) {
				t.Fatalf("seed %d: two runs have left unlike disks", seed)
			}
			lies = w.d.Durable()
		}
	}
}

// P19.2, R2: two jobs of two trees do not see one another.
func TestJobsOfTwoTrees(t *testing.T) {
	a, b := unbelieved(t, 7, 2005), unbelieved(t, 9, 4095)
	j, k := a.job(), b.job()
	wantStep(t, "of one", j, nil, 100, 3996, api.OK)
	wantStep(t, "of the other", k, nil, 7, 4089, api.OK)
	k.Stop()
	wantStep(t, "of one", j, nil, 4096, 0, api.OK)
	a.made("one")
	if b.h.Valid() || b.h.Dirty() != 4089 {
		t.Errorf("Valid %v, Dirty %d", b.h.Valid(), b.h.Dirty())
	}
	if maps.Equal(a.must(), b.must()) {
		t.Error("like trees: the test is wrong")
	}
}
