package rebuild_test

import (
	"testing"

	"concord/api"
	"concord/rebuild"
)

// exampled is the tree of the chapter's examples, which is not valid.
func exampled(t *testing.T) *world {
	t.Helper()
	w := plain(t)
	w.put("x", "a")
	w.again()
	return w
}

// The chapter's first example.
func TestExampleMadeAnew(t *testing.T) {
	w := exampled(t)
	if w.h.Valid() {
		t.Fatal("valid")
	}
	j := w.job()
	wantStep(t, "the first", j, nil, 2000, 2096, api.OK)
	wantStep(t, "the rest", j, nil, 4096, 0, api.OK)
	w.made("made anew")
	wantStep(t, "once more", j, nil, 4096, 0, api.ErrDone)
	if j.Left() != 0 {
		t.Errorf("Left %d", j.Left())
	}
}

// The chapter's second example.
func TestExampleCancelled(t *testing.T) {
	w := exampled(t)
	j := w.job()
	wantStep(t, "cancelled", j, cancelled(api.OK), 10, 0, api.ErrCancel)
	w.left("cancelled", j, 4096)
	wantStep(t, "gone on with", j, nil, 10, 4086, api.OK)
	w.left("gone on with", j, 4086)
}

// The chapter's third example.
func TestExampleRefused(t *testing.T) {
	w := exampled(t)
	j := w.job()
	wantStep(t, "none", j, nil, 0, 0, api.ErrArg)
	wantStep(t, "too many", j, nil, 4097, 0, api.ErrArg)
	if k, e := rebuild.New(nil); k != nil || e != api.ErrNil {
		t.Errorf("New(nil): %v, %v", k, e)
	}
	j.Stop()
	wantStep(t, "stopped", j, nil, 1, 0, api.ErrDone)
	if w.h.Valid() {
		t.Error("stopped, and valid")
	}
}

// The chapter's fourth example.
func TestExampleSurvey(t *testing.T) {
	l := []api.Entry{{Key: "a", Sum: "x"}}
	sums, e := rebuild.Survey(nil, l, 1, 3)
	wantOK(t, "Survey", e)
	if len(sums) != 4096 {
		t.Fatalf("%d texts", len(sums))
	}
	for n, sum := range sums {
		if n == 2005 && len(sum) != 1 || n != 2005 && sum != "" {
			t.Errorf("of %d: %x", n, sum)
		}
	}
	for _, x := range []struct {
		width, workers int
		e              api.Errno
	}{{2, 3, api.ErrEntry}, {0, 3, api.ErrArg}, {1, 0, api.ErrArg}, {1, 17, api.ErrArg}} {
		sums, e := rebuild.Survey(nil, l, x.width, x.workers)
		if sums != nil || e != x.e {
			t.Errorf("width %d, %d workers: %d texts, %v, want %v", x.width, x.workers, len(sums), e, x.e)
		}
	}
}

// The chapter's fifth example.
func TestExampleAudit(t *testing.T) {
	w := plain(t)
	w.put("x", "a")
	wantOK(t, "Refresh", w.h.Refresh())
	wantAudit(t, "closed", w, nil, 2, nil, api.OK)
	w.put("y", "a")
	wantAudit(t, "changed", w, nil, 2, []uint16{0, 8, 142, 2278}, api.OK)
	w.again()
	wantAudit(t, "not valid", w, nil, 2, nil, api.ErrInvalid)
}
