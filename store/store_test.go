package store_test

import (
	"fmt"
	"math"
	"slices"
	"testing"

	"concord/api"
	"concord/disk"
	"concord/store"
)

// P7.2: what a store tells follows Commit alone, and is there again behind an Open.
func TestAStoreTells(t *testing.T) {
	d, s := fresh(t)
	m := bare(4)
	wantStore(t, "new", s, m, 1)
	b := s.Begin()
	mustAlloc(t, b, 9, "x", 1)
	mustAlloc(t, b, 8, "y", 2)
	mustBe(t, "SetRoot", b.SetRoot(7, 2), api.OK)
	wantStore(t, "ahead of Commit", s, m, 1)
	mustBe(t, "Commit", b.Commit(), api.OK)
	m = model{4, [8]uint32{7: 2}, map[uint32]content{1: {9, "x"}, 2: {8, "y"}}}
	wantStore(t, "behind it", s, m, 2)
	wantStore(t, "opened anew", mustOpen(t, d, 4), m, 2)
	b = s.Begin()
	mustBe(t, "SetRoot", b.SetRoot(7, 0), api.OK)
	mustBe(t, "Release", b.Release(2), api.OK)
	mustBe(t, "Write", b.Write(1, 0, ""), api.OK)
	wantStore(t, "ahead of the next", s, m, 2)
	mustBe(t, "Commit", b.Commit(), api.OK)
	m = model{4, [8]uint32{}, map[uint32]content{1: {0, ""}}}
	wantStore(t, "behind the next", s, m, 3)
	wantStore(t, "opened anew", mustOpen(t, d, 4), m, 3)
}

// P7.2: roots that there are not.
func TestRootsThatAreNone(t *testing.T) {
	_, s := second(t)
	b := s.Begin()
	for _, i := range []int{-1, 8, 9, 256, math.MinInt, math.MaxInt, 1 << 32} {
		if s.Root(i) != 0 || b.Root(i) != 0 {
			t.Errorf("Root(%d): %d, of a batch %d", i, s.Root(i), b.Root(i))
		}
	}
	if s.Root(0) != 1 || b.Root(0) != 1 {
		t.Error("Root(0)")
	}
}

// P7.3: what is wrong, in its order; each page bears the serial of the batch that wrote it last.
func TestRead(t *testing.T) {
	d, s := second(t)
	b := s.Begin()
	mustBe(t, "Write", b.Write(2, 200, "later"), api.OK)
	mustBe(t, "Commit", b.Commit(), api.OK)
	for _, c := range []struct {
		n    uint32
		want api.Page
		e    api.Errno
	}{
		{0, api.Page{}, api.ErrArg},
		{1, api.Page{Kind: 1, Number: 1, Serial: 2, Body: "a"}, api.OK},
		{2, api.Page{Kind: 200, Number: 2, Serial: 3, Body: "later"}, api.OK},
		{3, api.Page{}, api.ErrFree},
		{4, api.Page{}, api.ErrArg},
		{8, api.Page{}, api.ErrArg},
		{1 << 31, api.Page{}, api.ErrArg},
		{1<<32 - 1, api.Page{}, api.ErrArg},
	} {
		if p, e := s.Read(c.n); p != c.want || e != c.e {
			t.Errorf("Read(%d): %v, %v", c.n, p, e)
		}
	}
	w := watched(d)
	s = mustOpen(t, w, 4)
	for n, want := range map[uint32][]string{0: nil, 1: {"read 5"}, 2: {"read 6"}, 3: nil, 4: nil} {
		w.asked = nil
		s.Read(n)
		if !slices.Equal(w.asked, want) {
			t.Errorf("Read(%d) asks %q", n, w.asked)
		}
	}
}

// P7.3: what the device answers is the answer; it does not make the store dead.
func TestReadIsRefusedByTheDevice(t *testing.T) {
	d, _ := second(t)
	w := watched(d)
	s := mustOpen(t, w, 4)
	b := s.Begin()
	for _, with := range []api.Errno{api.ErrPower, api.ErrArg, api.ErrBlank, -5} {
		for what, r := range map[string]reader{"a store": s, "a batch": b} {
			w.asked, w.refuse, w.with = nil, 0, with
			if p, e := r.Read(1); p != (api.Page{}) || e != with {
				t.Errorf("%s: %v, %v; want %v", what, p, e, with)
			}
			w.refuse = -1
			if p, e := r.Read(1); p.Body != "a" || e != api.OK {
				t.Errorf("%s, behind %v: %v, %v", what, with, p, e)
			}
		}
	}
}

// P7.3: a page in use on which something else lies.
func TestReadOfWhatIsNoPage(t *testing.T) {
	head := encoded(t, api.Page{Kind: 83, Serial: 7, Body: headBody(4, [8]uint32{3}, 1, 2, 3)})
	right := encoded(t, api.Page{Kind: 5, Number: 1, Serial: 6, Body: "x"})
	for what, c := range map[string]string{
		"blank":             ended(0, 0, 0),
		"another Number":    encoded(t, api.Page{Kind: 5, Number: 2, Serial: 6, Body: "x"}),
		"the device's":      encoded(t, api.Page{Kind: 5, Number: 5, Serial: 6, Body: "x"}),
		"a turned bit":      right[:20] + "y" + right[21:],
		"torn":              right[:1016] + ended(0, 0, 5)[1016:],
		"a serial above it": ended(0, top+1, top+1),
	} {
		s := mustOpen(t, byHand(t, nil, head, c, right), 4)
		b := s.Begin()
		for _, r := range []reader{s, b} {
			if p, e := r.Read(1); p != (api.Page{}) || e != api.ErrBroken {
				t.Errorf("%s: %v, %v", what, p, e)
			}
		}
		mustBe(t, "Write", b.Write(1, 1, "mended"), api.OK)
		mustBe(t, "Commit", b.Commit(), api.OK)
		if p, e := s.Read(1); e != api.OK || p.Body != "mended" {
			t.Errorf("%s, written over: %v, %v", what, p, e)
		}
	}
	s := mustOpen(t, byHand(t, nil, head, right), 4)
	if p, e := s.Read(1); e != api.OK || p != (api.Page{Kind: 5, Number: 1, Serial: 6, Body: "x"}) {
		t.Errorf("a right one: %v, %v", p, e)
	}
	d, _ := second(t)
	odd := &short{d, 1024}
	s = mustOpen(t, odd, 4)
	for _, odd.length = range []int{0, 1023, 1025} {
		if p, e := s.Read(1); p != (api.Page{}) || e != api.ErrBroken {
			t.Errorf("%d bytes: %v, %v", odd.length, p, e)
		}
	}
}

// everyCall is what each call of a batch that answers an error answers.
func everyCall(b *store.Batch) map[string]api.Errno {
	_, read := b.Read(1)
	n, alloc := b.Alloc(1, "x")
	if n != 0 {
		alloc = -1
	}
	return map[string]api.Errno{
		"Read": read, "Alloc": alloc, "Write": b.Write(1, 1, "x"), "Release": b.Release(2), "SetRoot": b.SetRoot(0, 0),
		"Read(0)": errorOf(b.Read(0)), "Write of a big one": b.Write(99, 1, string(make([]byte, 2000))), "SetRoot(-1)": b.SetRoot(-1, 99),
		"Commit": b.Commit(),
	}
}

func errorOf(_ api.Page, e api.Errno) api.Errno { return e }

// wantEnded asks everything of a batch that has ended.
func wantEnded(t *testing.T, what string, b *store.Batch, want api.Errno) {
	t.Helper()
	for call, e := range everyCall(b) {
		if e != want {
			t.Errorf("%s: %s: %v, want %v", what, call, e, want)
		}
	}
	b.Drop()
	if b.Size() != 0 || b.Root(0) != 0 {
		t.Errorf("%s: Size %d, Root %d", what, b.Size(), b.Root(0))
	}
}

// P7.4, and how batches end: by Begin, Drop, Commit, of nothing too; none of them leaves a thing behind that was not committed.
func TestBatchesEnd(t *testing.T) {
	for what, end := range map[string]func(s *store.Store, b *store.Batch){
		"Begin":        func(s *store.Store, b *store.Batch) { b.Alloc(7, "z"); s.Begin() },
		"Begin, twice": func(s *store.Store, b *store.Batch) { s.Begin(); s.Begin() },
		"Drop":         func(s *store.Store, b *store.Batch) { b.Write(1, 7, "z"); b.Release(2); b.SetRoot(0, 0); b.Drop() },
		"Commit":       func(s *store.Store, b *store.Batch) { b.Commit() },
	} {
		d, s := second(t)
		b := s.Begin()
		end(s, b)
		lies := d.Durable()
		wantEnded(t, what, b, api.ErrDone)
		wantStore(t, what, s, secondModel(), 2)
		wantStore(t, what+", opened anew", mustOpen(t, d, 4), secondModel(), 2)
		if d.Pending() != 0 || !slices.Equal(d.Durable(), lies) {
			t.Errorf("%s: something was written", what)
		}
	}
	_, s := second(t)
	b := s.Begin()
	mustBe(t, "Write", b.Write(1, 7, "z"), api.OK)
	mustBe(t, "Commit", b.Commit(), api.OK)
	wantEnded(t, "behind a Commit", b, api.ErrDone)
	if b = s.Begin(); b.Size() != 0 || b.Root(0) != 1 || b.Write(1, 1, "") != api.OK {
		t.Error("a batch behind it")
	}
}

// P7.4: a batch that has ended does nothing to the one that is on.
func TestAnEndedBatchBesideAnother(t *testing.T) {
	_, s := second(t)
	old := s.Begin()
	mustBe(t, "Write", old.Write(1, 7, "old"), api.OK)
	b := s.Begin()
	if b.Size() != 0 {
		t.Errorf("a new batch has the Size %d", b.Size())
	}
	mustBe(t, "Write", b.Write(1, 8, "new"), api.OK)
	wantEnded(t, "the old one", old, api.ErrDone)
	if p, e := b.Read(1); e != api.OK || p.Body != "new" || b.Size() != 2 {
		t.Errorf("the new one: %v, %v, Size %d", p, e, b.Size())
	}
	mustBe(t, "Commit", b.Commit(), api.OK)
	m := secondModel()
	m.used[1] = content{8, "new"}
	wantStore(t, "behind it", s, m, 3)
}

// P7.12: a dead store's Read answers ErrDone, its batches have ended; all else tells what it told; the device is asked for nothing.
func TestADeadStore(t *testing.T) {
	for at := range 7 {
		d, _ := second(t)
		w := watched(d)
		s := mustOpen(t, w, 4)
		old := s.Begin()
		b := s.Begin()
		mustBe(t, "Write", b.Write(1, 1, "x"), api.OK)
		mustBe(t, "SetRoot", b.SetRoot(5, 2), api.OK)
		w.asked, w.refuse, w.with = nil, at, api.ErrFull
		mustBe(t, "Commit", b.Commit(), api.ErrFull)
		w.asked, w.counts = nil, 0
		w.refuse = -1
		for range 2 {
			for n := range uint32(6) {
				if p, e := s.Read(n); p != (api.Page{}) || e != api.ErrDone {
					t.Errorf("Read(%d): %v, %v", n, p, e)
				}
			}
			if s.Pages() != 4 || s.Free() != 1 || s.Serial() != 2 || s.Root(0) != 1 || s.Root(5) != 0 {
				t.Errorf("a dead store: %d, %d, %d, %d, %d", s.Pages(), s.Free(), s.Serial(), s.Root(0), s.Root(5))
			}
			wantEnded(t, "the batch", b, api.ErrDone)
			wantEnded(t, "an older batch", old, api.ErrDone)
			wantEnded(t, "a new batch", s.Begin(), api.ErrDone)
		}
		if len(w.asked) != 0 || w.counts != 0 {
			t.Errorf("a dead store asks %q", w.asked)
		}
	}
}

// P7.12: the device's number of pages is asked at Open alone, and so may be another one behind it.
func TestPagesAreAskedAtOpenAlone(t *testing.T) {
	for _, pages := range []int{0, -1, 3, 6, 4096, math.MaxInt, math.MinInt} {
		d := &sized{blank(t, 8), 8}
		w := watched(d)
		s := mustOpen(t, w, 4)
		w.counts = 0
		d.pages = pages
		for i := range uint32(3) {
			b := s.Begin()
			mustAlloc(t, b, 1, "x", i+1)
			mustBe(t, "Commit", b.Commit(), api.OK)
			s.Read(1)
		}
		m := bare(4)
		for i := range uint32(3) {
			m.used[i+1] = content{1, "x"}
		}
		wantStore(t, fmt.Sprint(pages, " pages"), s, m, 4)
		if w.counts != 0 {
			t.Errorf("asked %d times", w.counts)
		}
	}
}

// R1: nil objects, and such that no call gave.
func TestNilAndZero(t *testing.T) {
	var s *store.Store
	var b *store.Batch
	if p, e := s.Read(1); p != (api.Page{}) || e != api.ErrNil {
		t.Errorf("Read of a nil store: %v, %v", p, e)
	}
	if s.Pages() != 0 || s.Free() != 0 || s.Serial() != 0 || s.Root(0) != 0 || s.Begin() != nil {
		t.Error("a nil store")
	}
	wantEnded(t, "a nil batch", b, api.ErrNil)
	s, b = new(store.Store), new(store.Batch)
	s.Read(0)
	s.Read(1)
	s.Pages()
	s.Free()
	s.Serial()
	s.Root(3)
	everyCall(s.Begin())
	s.Begin().Drop()
	everyCall(b)
	b.Drop()
	b.Size()
	b.Root(1)
}

// R1: objects that were copied as values end all their calls without a panic.
func TestCopiedObjects(t *testing.T) {
	_, s := second(t)
	b := s.Begin()
	b.Write(1, 1, "x")
	other, batch := *s, *b
	everyCall(&batch)
	batch.Drop()
	if p, e := b.Read(1); e != api.OK || p.Body != "x" {
		t.Errorf("behind a copy's calls: %v, %v", p, e)
	}
	b.Drop()
	other.Begin().Drop()
	everyCall(other.Begin())
	other.Read(1)
	everyCall(b)
}

// R2: two stores on two disks do not see one another.
func TestTwoStores(t *testing.T) {
	_, s := second(t)
	_, o := second(t)
	b, c := s.Begin(), o.Begin()
	mustBe(t, "Write", b.Write(1, 1, "one"), api.OK)
	mustBe(t, "Write", c.Write(1, 1, "other"), api.OK)
	mustBe(t, "Commit", b.Commit(), api.OK)
	if p, e := c.Read(1); e != api.OK || p.Body != "other" {
		t.Errorf("the other's batch: %v, %v", p, e)
	}
	wantStore(t, "the other one", o, secondModel(), 2)
}

// P7.13: two stores of one device are one behind the other: the later one sees what the first one left.
func TestOneBehindTheOther(t *testing.T) {
	d, s := second(t)
	var dev disk.Device = d
	for i := range uint32(5) {
		b := s.Begin()
		mustBe(t, "Write", b.Write(1+i%2, uint8(i), fmt.Sprint(i)), api.OK)
		mustBe(t, "Commit", b.Commit(), api.OK)
		s = mustOpen(t, dev, 4)
		if p, e := s.Read(1 + i%2); e != api.OK || p.Body != fmt.Sprint(i) || s.Serial() != uint64(3+i) {
			t.Errorf("round %d: %v, %v, Serial %d", i, p, e, s.Serial())
		}
	}
}
