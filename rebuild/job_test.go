package rebuild_test

import (
	"fmt"
	"maps"
	"math/rand"
	"slices"
	"testing"

	"concord/api"
	"concord/cancel"
	"concord/hashtree"
	"concord/rebuild"
)

// P19.1: a job begins the tree's rebuild, whatever the tree was, and its next is the segment 0.
func TestNew(t *testing.T) {
	w := plain(t)
	w.left("of a closed one", w.job(), 4096)
	w.again()
	w.left("of one that is not valid", w.job(), 4096)
	w.left("of one that is on", w.job(), 4096)
	wantOK(t, "Finish", w.h.Finish())
	w.put("x", "a")
	if !w.h.Valid() || w.h.Closed() {
		t.Fatal("valid, and a segment waits: the test is wrong")
	}
	w.left("of one that is valid", w.job(), 4096)
}

// P19.1: without a tree there is no job, nor where Begin fails.
func TestNewRefused(t *testing.T) {
	if j, e := rebuild.New(nil); j != nil || e != api.ErrNil {
		t.Errorf("of none: %v, %v", j, e)
	}
	w := plain(t)
	w.put("x", "a")
	wantOK(t, "Refresh", w.h.Refresh())
	w.d.Fuse(0)
	if j, e := rebuild.New(w.h); j != nil || e != api.ErrPower {
		t.Errorf("without power: %v, %v", j, e)
	}
	if j, e := rebuild.New(w.h); j != nil || e != api.ErrDone {
		t.Errorf("of a store at its end: %v, %v", j, e)
	}
	w.d.Crash(api.Fate{})
	w.again()
	w.made("what was closed")
}

// P19.1, P19.2: a second job makes the tree wait anew, and the first one goes on with its own next; once one is through, the other one finds no rebuild on.
func TestTwoJobs(t *testing.T) {
	w := unbelieved(t, 7, 2005)
	first := w.job()
	wantStep(t, "the first", first, nil, 100, 3996, api.OK)
	second := w.job()
	w.left("the second", second, 4096)
	wantStep(t, "the first again", first, nil, 10, 3986, api.OK)
	if second.Left() != 4096 || w.h.Dirty() != 4086 {
		t.Errorf("Left %d, Dirty %d", second.Left(), w.h.Dirty())
	}
	wantStep(t, "the second", second, nil, 4096, 0, api.OK)
	w.made("by the second")
	if first.Left() != 3986 {
		t.Errorf("Left %d", first.Left())
	}
	wantStep(t, "the first, behind the second", first, nil, 1, 0, api.ErrDone)
	over(t, "the first", first)
	w.made("by the second")
}

// P19.2: each Step rehashes as many segments as it is told, in order, up to the last one; these have their sums then, the others have what lay there.
func TestSteps(t *testing.T) {
	ends := 0
	for seed := range int64(8) {
		r := rand.New(rand.NewSource(seed))
		w := unbelieved(t, 0, 1, 2005, 4095, r.Intn(4096), r.Intn(4096))
		must := w.must()
		j := w.job()
		for next := 0; next < 4096; {
			n := []int{1, 2, 1 + r.Intn(400), 1 + r.Intn(4096), 4096, 4096 - next}[r.Intn(6)]
			next = min(next+n, 4096)
			what := fmt.Sprintf("seed %d, up to %d", seed, next)
			wantStep(t, what, j, nil, n, 4096-next, api.OK)
			if next == 4096 {
				ends++
				break
			}
			w.left(what, j, 4096-next)
			w.rehashed(what, must, next)
		}
		w.made(fmt.Sprint("seed ", seed))
		over(t, fmt.Sprint("seed ", seed), j)
	}
	if ends != 8 {
		t.Errorf("%d ends", ends)
	}
}

// rehashed holds that the segments below one have the sums that they must have, and nothing else lies there.
func (w *world) rehashed(what string, must map[string]string, next int) {
	w.t.Helper()
	below := maps.Clone(must)
	maps.DeleteFunc(below, func(key, _ string) bool { return key < sumKey(3, 0) || key >= sumKey(3, next) })
	if got := w.cells(sumsRoot); !maps.Equal(got, below) {
		w.t.Fatalf("%s: the sums are %x, want %x", what, got, below)
	}
}

// P19.2: what is wrong with a Step, in the order that the chapter tells; none of it changes anything.
func TestStepArguments(t *testing.T) {
	w := unbelieved(t, 7)
	j := w.job()
	for _, at := range []int{4096, 4089, 1} {
		if n := j.Left() - at; n > 0 {
			wantStep(t, "on the way", j, nil, n, at, api.OK)
		}
		lies, b := w.d.Durable(), w.s.Begin()
		for _, n := range []int{0, -1, 4097, 1 << 40, -1 << 62} {
			wantStep(t, "no number", j, nil, n, 0, api.ErrArg)
			wantStep(t, "no number, and cancelled", j, cancelled(api.ErrTries), n, 0, api.ErrArg)
		}
		for _, n := range []int{1, 10, 4096} {
			wantStep(t, "cancelled", j, cancelled(api.ErrTries), n, 0, api.ErrTries)
		}
		w.left("refused", j, at)
		if _, e := b.Read(0); e == api.ErrDone || !slices.Equal(w.d.Durable(), lies) || w.d.Pending() > 0 {
			t.Errorf("%d left: something was written: %v", at, e)
		}
	}
	j.Stop()
	over(t, "stopped", j)
}

// P19.2, R1: of a nil job, and of one that came out of no call.
func TestNoJob(t *testing.T) {
	var none *rebuild.Job
	for _, n := range []int{-1, 0, 1, 4096, 4097} {
		wantStep(t, "of a nil job", none, nil, n, 0, api.ErrNil)
		wantStep(t, "of a nil job", none, cancelled(api.ErrTries), n, 0, api.ErrNil)
	}
	none.Stop()
	if none.Left() != 0 {
		t.Errorf("Left of a nil job: %d", none.Left())
	}
	j := new(rebuild.Job)
	j.Step(nil, 1)
	j.Left()
	j.Stop()
	over(t, "made by hand and stopped", j)
	if j, e := rebuild.New(new(hashtree.Tree)); e == api.OK {
		j.Step(new(cancel.Token), 1)
		j.Step(nil, 4096)
		j.Left()
		j.Stop()
	}
}

// amid calls f when the segment is read to be hashed anew.
func (w *world) amid(segment int, f func()) {
	w.ear.read = func(int) {
		if w.h.Building() && w.h.Dirty() == 4096-segment {
			f()
		}
	}
}

// P19.2: a token that is cancelled while a segment is hashed lets that segment be, and the job goes on with the one behind it; behind the last one that was asked for it is not looked at.
func TestCancelledMeanwhile(t *testing.T) {
	for _, c := range []struct{ steps, amid, left int }{{4096, 0, 4095}, {4096, 2005, 2090}, {4096, 4094, 1}, {10, 3, 4092}, {2006, 2004, 2091}} {
		w := unbelieved(t, 0, 2005, 4095)
		must := w.must()
		j, k := w.job(), cancel.New()
		w.amid(c.amid, func() { k.Cancel(api.ErrDown) })
		what := fmt.Sprintf("amid %d", c.amid)
		wantStep(t, what, j, k, c.steps, 0, api.ErrDown)
		w.left(what, j, c.left)
		w.rehashed(what, must, 4096-c.left)
		wantStep(t, what+", again", j, k, 1, 0, api.ErrDown)
		w.left(what+", again", j, c.left)
		wantStep(t, what+", gone on with", j, cancel.New(), 4096, 0, api.OK)
		w.made(what)
	}
	for _, n := range []int{1, 10, 2006} {
		w := unbelieved(t, 0, 2005, 4095)
		j, k := w.job(), cancel.New()
		w.amid(n-1, func() { k.Cancel(api.ErrDown) })
		what := fmt.Sprintf("amid the last of %d", n)
		wantStep(t, what, j, k, n, 4096-n, api.OK)
		if !k.Off() {
			t.Fatalf("%s: it is not cancelled: the test is wrong", what)
		}
		w.left(what, j, 4096-n)
		wantStep(t, what+", again", j, k, n, 0, api.ErrDown)
		w.left(what+", again", j, 4096-n)
	}
}

// P19.2: where no segment is left, the token is not looked at any more.
func TestCancelledAtTheEnd(t *testing.T) {
	for _, amid := range []int{4095, 4096} {
		for _, steps := range []int{1, 96, 4096} {
			w := unbelieved(t, 0, 2005, 4095)
			j, k := w.job(), cancel.New()
			if n := 4096 - steps; n > 0 {
				wantStep(t, "on the way", j, k, n, steps, api.OK)
			}
			w.amid(amid, func() { k.Cancel(api.ErrDown) })
			wantStep(t, "the end", j, k, steps, 0, api.OK)
			if !k.Off() {
				t.Fatalf("amid %d: it is not cancelled: the test is wrong", amid)
			}
			w.made("cancelled at the end")
			over(t, "cancelled at the end", j)
		}
	}
}

// P19.2: the reason is the token's own, which may have come from above; another token at each Step does.
func TestReasons(t *testing.T) {
	w := unbelieved(t, 7)
	j, top := w.job(), cancel.New()
	side := cancel.New()
	low := cancel.Under(cancel.Under(top))
	wantStep(t, "not cancelled", j, low, 5, 4091, api.OK)
	side.Cancel(api.ErrBusy)
	wantStep(t, "beside one that is", j, low, 5, 4086, api.OK)
	top.Cancel(api.ErrLives)
	low.Cancel(api.ErrTries)
	wantStep(t, "from above", j, low, 5, 0, api.ErrLives)
	wantStep(t, "under it", j, cancel.Under(low), 5, 0, api.ErrLives)
	wantStep(t, "the other one", j, side, 5, 0, api.ErrBusy)
	wantStep(t, "no reason", j, cancelled(api.OK), 5, 0, api.ErrCancel)
	wantStep(t, "a strange reason", j, cancelled(9999), 5, 0, 9999)
	w.left("cancelled", j, 4086)
	wantStep(t, "gone on with", j, cancel.New(), 4086, 0, api.OK)
	w.made("gone on with")
}

// P19.2: the error of a Rehash is the answer, and the job is over; what was hashed up to then stays.
func TestRehashFails(t *testing.T) {
	for _, n := range []int{0, 500, 4095} {
		for _, ahead := range []int{0, min(n, 20)} {
			w := unbelieved(t, 7, 2005)
			must := w.must()
			w.strange(objectsRoot, two(n)+"no object", "of no form", false)
			j := w.job()
			if ahead > 0 {
				wantStep(t, "on the way", j, nil, ahead, 4096-ahead, api.OK)
			}
			what := fmt.Sprintf("the segment %d is broken", n)
			wantStep(t, what, j, nil, 4096, 0, api.ErrBroken)
			over(t, what, j)
			if w.h.Dirty() != 4096-n || !w.h.Building() || w.h.Valid() {
				t.Errorf("%s: Dirty %d, Building %v, Valid %v", what, w.h.Dirty(), w.h.Building(), w.h.Valid())
			}
			w.rehashed(what, must, n)
			w.strange(objectsRoot, two(n)+"no object", "", true)
			wantStep(t, what+", mended", w.job(), nil, 4096, 0, api.OK)
			w.made(what + ", mended")
		}
	}
}

// P19.2: an error of the segment behind those that were asked for is not met yet.
func TestFailureAhead(t *testing.T) {
	w := unbelieved(t, 7)
	w.strange(objectsRoot, two(10)+"no object", "of no form", false)
	j := w.job()
	wantStep(t, "ahead of it", j, nil, 10, 4086, api.OK)
	w.left("ahead of it", j, 4086)
	wantStep(t, "cancelled ahead of it", j, cancelled(api.ErrDown), 1, 0, api.ErrDown)
	w.left("cancelled ahead of it", j, 4086)
	wantStep(t, "at it", j, nil, 1, 0, api.ErrBroken)
	over(t, "at it", j)
}

// P19.2: the error of a Finish is the answer, and the job is over.
func TestFinishFails(t *testing.T) {
	w := unbelieved(t, 7, 2005)
	must := w.must()
	w.strange(objectsRoot, "\xff\xff", "of no segment", false)
	for _, steps := range []int{4096, 1} {
		j := w.job()
		if steps == 1 {
			wantStep(t, "on the way", j, nil, 4095, 1, api.OK)
		}
		wantStep(t, "a cell that Finish alone looks at", j, nil, steps, 0, api.ErrBroken)
		over(t, "Finish failed", j)
		if w.h.Dirty() != 0 || w.h.Valid() || w.h.Closed() {
			t.Errorf("Dirty %d, Valid %v, Closed %v", w.h.Dirty(), w.h.Valid(), w.h.Closed())
		}
		w.rehashed("Finish failed", must, 4096)
	}
	w.strange(objectsRoot, "\xff\xff", "", true)
	wantStep(t, "mended", w.job(), nil, 4096, 0, api.OK)
	w.made("mended")
}

// P19.2: a table of objects that breaks is met by the first segment.
func TestObjectsBreak(t *testing.T) {
	for what, c := range map[string]struct {
		bodies func(first uint32) []string
		e      api.Errno
	}{
		"no node":     {func(uint32) []string { return []string{"no node"} }, api.ErrBroken},
		"a free page": {func(first uint32) []string { return []string{branch(first+1, "m", 100), leaf("a", "b")} }, api.ErrFree},
	} {
		w := unbelieved(t, 7)
		j := w.job()
		wantStep(t, what, j, nil, 8, 4088, api.OK)
		w.handmade(objectsRoot, c.bodies)
		wantStep(t, what, j, nil, 8, 0, c.e)
		over(t, what, j)
		if w.h.Dirty() != 4088 {
			t.Errorf("%s: Dirty %d", what, w.h.Dirty())
		}
	}
}

// P19.2: a rebuild that was ended by the tree's own Finish is on no more.
func TestFinishedBehindItsBack(t *testing.T) {
	for _, at := range []int{0, 100, 4095} {
		w := unbelieved(t, 7)
		j := w.job()
		if at > 0 {
			wantStep(t, "on the way", j, nil, at, 4096-at, api.OK)
		}
		wantOK(t, "Finish", w.h.Finish())
		if j.Left() != 4096-at {
			t.Errorf("Left %d", j.Left())
		}
		wantStep(t, "cancelled", j, cancelled(api.ErrDown), 1, 0, api.ErrDown)
		wantStep(t, "behind Finish", j, nil, 1, 0, api.ErrDone)
		over(t, "behind Finish", j)
		w.made("by Finish")
	}
}

// P19.3: a job that is stopped is over, and neither tree nor disk have changed by it.
func TestStop(t *testing.T) {
	for _, at := range []int{0, 1, 2006, 4095} {
		w := unbelieved(t, 7, 2005)
		j := w.job()
		if at > 0 {
			wantStep(t, "on the way", j, nil, at, 4096-at, api.OK)
		}
		lies, b := w.d.Durable(), w.s.Begin()
		j.Stop()
		over(t, "stopped", j)
		j.Stop()
		over(t, "stopped twice", j)
		if _, e := b.Read(0); e == api.ErrDone || !slices.Equal(w.d.Durable(), lies) || w.d.Pending() > 0 {
			t.Errorf("at %d: something was written: %v", at, e)
		}
		if w.h.Dirty() != 4096-at || !w.h.Building() || w.h.Valid() || w.h.Closed() {
			t.Errorf("at %d: Dirty %d, Building %v, Valid %v, Closed %v", at, w.h.Dirty(), w.h.Building(), w.h.Valid(), w.h.Closed())
		}
		if at%2 == 1 {
			w.again()
			if w.h.Valid() {
				t.Errorf("at %d: opened again, and valid", at)
			}
		}
		wantStep(t, "a later one", w.job(), nil, 4096, 0, api.OK)
		w.made("a later one")
	}
}

// P19.3: a job that is through may be stopped, too, and the tree stays closed.
func TestStopBehindTheEnd(t *testing.T) {
	w := unbelieved(t, 7)
	j := w.job()
	wantStep(t, "all", j, nil, 4096, 0, api.OK)
	j.Stop()
	over(t, "stopped", j)
	w.made("stopped behind the end")
}
