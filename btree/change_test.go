package btree_test

import (
	"math"
	"testing"

	"concord/api"
	"concord/btree"
	"concord/disk"
	"concord/store"
)

// P9.5: what is wrong is told in its order, and changes nothing.
func TestChangesRefused(t *testing.T) {
	s := fresh(t, 60)
	b := s.Begin()
	done := new(store.Batch)
	for _, c := range []struct {
		b          *store.Batch
		slot       int
		key, value string
		put, del   api.Errno
	}{
		{nil, 1, "a", "", api.ErrNil, api.ErrNil},
		{nil, 8, "", x(400), api.ErrNil, api.ErrNil},
		{b, -1, "a", "", api.ErrArg, api.ErrArg},
		{b, 8, "a", "", api.ErrArg, api.ErrArg},
		{b, math.MaxInt, "a", "", api.ErrArg, api.ErrArg},
		{b, math.MinInt, "a", "", api.ErrArg, api.ErrArg},
		{b, 8, "a", x(400), api.ErrArg, api.ErrArg},
		{b, 1, "", "", api.ErrArg, api.ErrArg},
		{b, 1, "", x(400), api.ErrArg, api.ErrArg},
		{b, 1, x(65), "", api.ErrArg, api.ErrArg},
		{b, 1, x(321), "", api.ErrArg, api.ErrArg},
		{b, 1, "a", x(320), api.ErrBig, api.OK},
		{b, 1, x(64), x(257), api.ErrBig, api.OK},
		{b, 1, x(64), x(9999), api.ErrBig, api.OK},
		{done, 8, "a", "", api.ErrArg, api.ErrArg},
		{done, 1, "", "", api.ErrArg, api.ErrArg},
		{done, 1, "a", x(320), api.ErrBig, api.ErrDone},
		{done, 1, "a", "", api.ErrDone, api.ErrDone},
	} {
		wantPut(t, c.b, c.slot, c.key, c.value, c.put)
		wantDelete(t, c.b, c.slot, c.key, false, c.del)
	}
	if b.Size() != 0 || b.Commit() != api.OK || s.Free() != s.Pages()-1 {
		t.Errorf("something was changed")
	}
}

// P9.5: a batch that has ended in any way: ErrDone, whatever the table holds.
func TestEndedBatches(t *testing.T) {
	for _, cells := range []int{0, 1} {
		s := fresh(t, 60)
		b := s.Begin()
		if cells == 1 {
			wantPut(t, b, 1, "a", "1", api.OK)
		}
		wantOK(t, "Commit", b.Commit())
		dropped := s.Begin()
		dropped.Drop()
		overtaken := s.Begin()
		s.Begin()
		for what, b := range map[string]*store.Batch{"committed": b, "dropped": dropped, "overtaken": overtaken} {
			for slot := range 8 {
				for _, key := range []string{"a", "b", x(64)} {
					if e := btree.Put(b, slot, key, "2"); e != api.ErrDone {
						t.Errorf("%s: Put: %v", what, e)
					}
					if was, e := btree.Delete(b, slot, key); was || e != api.ErrDone {
						t.Errorf("%s: Delete: %v, %v", what, was, e)
					}
				}
			}
		}
	}
}

// P9.5: the edges of keys and cells, in each of the eight tables; tables do not see one another.
func TestEdges(t *testing.T) {
	b := fresh(t, 90).Begin()
	want := make([]map[string]string, 8)
	for slot := range 8 {
		want[slot] = map[string]string{}
		for key, value := range map[string]string{"\x00": "", "a": x(319), x(64): x(256), x(63): "", "\xff": string(rune('0' + slot))} {
			wantPut(t, b, slot, key, value, api.OK)
			want[slot][key] = value
		}
	}
	for slot := range 8 {
		wantLike(t, "at the edges", table(b, slot), want[slot])
	}
	for slot := range 8 {
		for key := range want[slot] {
			wantDelete(t, b, slot, key+"\x00"[:min(1, 64-len(key))], len(key) == 64, api.OK)
		}
		delete(want[slot], x(64))
		for other := range 8 {
			wantLike(t, "behind Deletes", table(b, other), want[other])
		}
	}
}

// P9.5: a Delete of what is not there changes nothing, in no table, a small one and one of some levels.
func TestDeleteOfNothing(t *testing.T) {
	s := fresh(t, 200)
	for _, count := range []int{0, 1, 300} {
		b := s.Begin()
		for i := range count {
			wantPut(t, b, 2, number(2*i), "x", api.OK)
		}
		b.Commit()
		b = s.Begin()
		for i := range 310 {
			wantDelete(t, b, 2, number(2*i+1), false, api.OK)
		}
		if b.Size() != 0 {
			t.Errorf("%d cells: %d pages are changed", count, b.Size())
		}
	}
}

// number is a key of two bytes that rises with i.
func number(i int) string { return string([]byte{byte(i >> 8), byte(i)}) }

// P9.6: where no page is free, Put answers ErrFull, and the batch is dropped; what fits goes on being taken.
func TestFull(t *testing.T) {
	for _, pages := range []int{22, 23, 24, 25, 29, 38} {
		s := fresh(t, pages)
		m := map[string]string{}
		full := 0
		for i := range 200 {
			b := s.Begin()
			key := number(i * 77 % 200)
			switch e := btree.Put(b, 3, key, x(100)); e {
			case api.OK:
				wantOK(t, "Commit", b.Commit())
				m[key] = x(100)
			case api.ErrFull:
				full++
				b.Drop()
			default:
				t.Fatalf("Put: %v", e)
			}
			if full < 5 {
				wantLike(t, "a store that fills", table(s, 3), m)
			}
		}
		wantLike(t, "a full store", table(s, 3), m)
		if full == 0 || len(m) < 2*(pages-21) {
			t.Errorf("%d pages: %d cells, full %d times", pages, len(m), full)
		}
		if s.Free() == 0 {
			wantPut(t, s.Begin(), 4, "a", "", api.ErrFull)
		}
		for key := range m {
			b := s.Begin()
			wantDelete(t, b, 3, key, true, api.OK)
			wantOK(t, "Commit", b.Commit())
		}
		if s.Free() != s.Pages()-1 {
			t.Errorf("%d of %d pages are free", s.Free(), s.Pages())
		}
	}
}

// grown is a device with a table of some levels in the slot 0, whose nodes are of all sizes.
func grown(t *testing.T) (*spy, map[string]string) {
	t.Helper()
	d, e := disk.New(300)
	wantOK(t, "New", e)
	p := &spy{Device: d, refuse: -1}
	s := opened(t, p)
	m := map[string]string{}
	for i := range 260 {
		b := s.Begin()
		key := number(i*77%260) + x(i%60)
		m[key] = x(i * 31 % 250)
		wantPut(t, b, 0, key, m[key], api.OK)
		if i%3 == 2 {
			key = number((i-1)*77%260) + x((i-1)%60)
			delete(m, key)
			wantDelete(t, b, 0, key, true, api.OK)
		}
		wantOK(t, "Commit", b.Commit())
	}
	if levels := throughOf(s, s.Root(0), "").levels(); levels < 3 {
		t.Fatalf("only %d levels", levels)
	}
	return p, m
}

// P9.6: what the device refuses is the answer, at each of the reads of a Put and of a Delete.
func TestReadsRefused(t *testing.T) {
	p, m := grown(t)
	beside := 0
	for key := range m {
		for _, act := range []func(b *store.Batch) api.Errno{
			func(b *store.Batch) api.Errno { return btree.Put(b, 0, key, x(256)) },
			func(b *store.Batch) api.Errno { return btree.Put(b, 0, key, "") },
			func(b *store.Batch) api.Errno { _, e := btree.Delete(b, 0, key); return e },
		} {
			p.refuse = -1
			s := opened(t, p)
			p.reads = 0
			wantOK(t, "undisturbed", act(s.Begin()))
			reads := p.reads
			if reads > throughOf(s, s.Root(0), "").levels() {
				beside++
			}
			for refuse := range reads {
				b := s.Begin()
				p.reads, p.refuse = 0, refuse
				if e := act(b); e != api.ErrPower {
					t.Fatalf("read %d of %d is refused: %v", refuse, reads, e)
				}
				p.refuse = -1
			}
			p.reads, p.refuse = 0, reads
			wantOK(t, "undisturbed again", act(s.Begin()))
			p.refuse = -1
		}
	}
	if beside == 0 {
		t.Error("no neighbour was read")
	}
	wantLike(t, "all batches were dropped", table(opened(t, p), 0), m)
}
