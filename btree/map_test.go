package btree_test

import (
	"maps"
	"math/rand"
	"testing"

	"concord/api"
	"concord/disk"
	"concord/store"
)

// maps8 is what the eight tables of a store should hold.
type maps8 [8]map[string]string

func (m maps8) copied() maps8 {
	for i := range m {
		m[i] = maps.Clone(m[i])
	}
	return m
}

// unlike says at what the tables are not as the maps.
func (m maps8) unlike(r rooted) string {
	for slot := range m {
		if told := unlike(table(r, slot), m[slot]); told != "" {
			return told
		}
	}
	return ""
}

// world is a store and its batch, with what was committed, and what the batch has made of it.
type world struct {
	r         *rand.Rand
	disk      *disk.Disk
	store     *store.Store
	batch     *store.Batch
	committed maps8
	current   maps8
	count     map[string]int
}

// change puts or deletes in one of the tables.
func (w *world) change(t *testing.T) {
	t.Helper()
	slot := w.r.Intn(8)
	a := act{put: w.r.Intn(5) > 1, key: number(w.r.Intn(60)) + x(w.r.Intn(3)*30)}
	a.value = x(w.r.Intn(4) * 80)
	_, was := w.current[slot][a.key]
	got, e := a.do(w.batch, slot)
	if e == api.ErrFull {
		w.count["full"]++
		w.drop()
		return
	}
	if e != api.OK || got != (was && !a.put) {
		t.Fatalf("%+v: %v, %v", a, got, e)
	}
	if delete(w.current[slot], a.key); a.put {
		w.current[slot][a.key] = a.value
	}
}

// drop begins anew: now and then without a word to the old batch.
func (w *world) drop() {
	if w.r.Intn(2) == 0 {
		w.batch.Drop()
	}
	w.batch = w.store.Begin()
	w.current = w.committed.copied()
}

// commit ends the batch; the power may go meanwhile.
func (w *world) commit(t *testing.T) {
	t.Helper()
	if w.r.Intn(3) == 0 {
		w.disk.Fuse(w.r.Intn(30))
	}
	e := w.batch.Commit()
	w.disk.Fuse(-1)
	switch e {
	case api.OK:
		w.committed = w.current.copied()
		w.batch = w.store.Begin()
	case api.ErrBatch:
		w.count["too many pages"]++
		w.drop()
	case api.ErrPower:
		w.reopen(t)
	default:
		t.Fatalf("Commit: %v", e)
	}
}

// reopen opens the store behind a loss of power: the batch was made, or it was not.
func (w *world) reopen(t *testing.T) {
	t.Helper()
	fate := api.Fate{Torn: w.r.Intn(4) - 1, Cut: w.r.Intn(129)}
	for range w.disk.Pending() {
		fate.Keep = append(fate.Keep, w.r.Intn(3) > 0)
	}
	w.disk.Crash(fate)
	w.store = opened(t, w.disk)
	switch {
	case w.committed.unlike(w.store) == "":
		w.count["not made"]++
	case w.current.unlike(w.store) == "":
		w.count["made"]++
		w.committed = w.current.copied()
	default:
		t.Fatalf("neither what was committed (%s) nor the batch (%s)", w.committed.unlike(w.store), w.current.unlike(w.store))
	}
	w.batch = w.store.Begin()
	w.current = w.committed.copied()
}

// P9.8: tables of all roots, changed, committed, dropped, opened again, are what maps would be.
func TestMaps(t *testing.T) {
	t.Parallel()
	w := &world{r: rand.New(rand.NewSource(98)), count: map[string]int{}}
	w.disk, _ = disk.New(110)
	w.store = opened(t, w.disk)
	for slot := range w.committed {
		w.committed[slot] = map[string]string{}
	}
	w.batch, w.current = w.store.Begin(), w.committed.copied()
	for range 1600 {
		switch w.r.Intn(10) {
		case 0, 1:
			w.commit(t)
		case 2:
			w.drop()
		case 3:
			if told := w.current.unlike(w.batch); told != "" {
				t.Fatalf("the batch: %s", told)
			}
			if told := w.committed.unlike(w.store); told != "" {
				t.Fatalf("the store, while the batch is on: %s", told)
			}
		default:
			for range 1 + w.r.Intn(6) {
				w.change(t)
			}
		}
	}
	for _, what := range []string{"full", "too many pages", "made", "not made"} {
		if w.count[what] < 5 {
			t.Errorf("only %d were %s", w.count[what], what)
		}
	}
}

// P9.8: one batch may hold much: a table is made, asked and emptied in it, and the store sees it at Commit alone.
func TestOneBatch(t *testing.T) {
	s := fresh(t, 200)
	b := s.Begin()
	m := map[string]string{}
	for i := range 400 {
		key := number(i * 171 % 400)
		m[key] = x(i % 90)
		wantPut(t, b, 0, key, m[key], api.OK)
	}
	wantLike(t, "the batch", table(b, 0), m)
	wantLike(t, "the store", table(s, 0), nil)
	for i := range 390 {
		key := number(i * 173 % 400)
		delete(m, key)
		wantDelete(t, b, 0, key, true, api.OK)
	}
	wantLike(t, "the batch", table(b, 0), m)
	wantOK(t, "Commit", b.Commit())
	wantLike(t, "the store", table(s, 0), m)
}

// P9.3, R8: what Seek tells stays as it was when the table is changed meanwhile.
func TestSeekWhileChanged(t *testing.T) {
	b := fresh(t, 60).Begin()
	for i := range 200 {
		wantPut(t, b, 0, number(i), "1", api.OK)
	}
	n := 0
	for key, value := range table(b, 0).Seek(number(50)) {
		if key != number(50+n) || value != "1" {
			t.Fatalf("the %d-th is %q, %q", n, key, value)
		}
		n++
		wantPut(t, b, 0, number(199-n), "2", api.OK)
		wantDelete(t, b, 0, number(199-n), true, api.OK)
	}
	if n != 150 {
		t.Errorf("%d cells", n)
	}
}
