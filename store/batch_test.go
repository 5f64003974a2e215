package store_test

import (
	"fmt"
	"math"
	"slices"
	"strings"
	"testing"

	"concord/api"
	"concord/disk"
	"concord/page"
	"concord/store"
)

// sized996 and sized997 are the greatest body that there may be, and one past it.
func sized996() string { return strings.Repeat("\xfe", 996) }
func sized997() string { return strings.Repeat("\xfe", 997) }

// wantPage holds what a batch tells of a page against what should be.
func wantPage(t *testing.T, r reader, want api.Page) {
	t.Helper()
	if p, e := r.Read(want.Number); e != api.OK || p != want {
		t.Errorf("Read(%d): %v, %v; want %v", want.Number, p, e, want)
	}
}

// P7.5: a batch's own pages have the Serial 0 and are not read from the device; others are as the store's.
func TestBatchRead(t *testing.T) {
	d, _ := second(t)
	w := watched(d)
	s := mustOpen(t, w, 4)
	b := s.Begin()
	wantPage(t, b, api.Page{Kind: 1, Number: 1, Serial: 2, Body: "a"})
	mustBe(t, "Write", b.Write(1, 9, "new"), api.OK)
	mustAlloc(t, b, 8, "taken", 3)
	w.asked = nil
	wantPage(t, b, api.Page{Kind: 9, Number: 1, Body: "new"})
	wantPage(t, b, api.Page{Kind: 8, Number: 3, Body: "taken"})
	if len(w.asked) != 0 {
		t.Errorf("its own pages: %q", w.asked)
	}
	wantPage(t, b, api.Page{Kind: 2, Number: 2, Serial: 2, Body: "b"})
	if !slices.Equal(w.asked, []string{"read 6"}) {
		t.Errorf("another page: %q", w.asked)
	}
	mustBe(t, "Release", b.Release(2), api.OK)
	for n, want := range map[uint32]api.Errno{0: api.ErrArg, 2: api.ErrFree, 4: api.ErrArg, 5: api.ErrArg, 1<<32 - 1: api.ErrArg} {
		if p, e := b.Read(n); e != want || p != (api.Page{}) {
			t.Errorf("Read(%d): %v, %v; want %v", n, p, e, want)
		}
	}
	wantStore(t, "meanwhile the store", s, secondModel(), 2)
}

// P7.6: what is wrong, in its order, changes nothing; else kind and body are those, the last ones of several.
func TestWrite(t *testing.T) {
	_, s := second(t)
	b := s.Begin()
	for _, c := range []struct {
		n    uint32
		body string
		want api.Errno
	}{
		{0, "", api.ErrArg}, {4, "", api.ErrArg}, {5, "", api.ErrArg}, {1<<32 - 1, "", api.ErrArg}, {3, "", api.ErrFree},
		{1, sized997(), api.ErrBig}, {2, strings.Repeat("x", 70000), api.ErrBig},
		{0, sized997(), api.ErrArg}, {4, sized997(), api.ErrArg}, {3, sized997(), api.ErrFree},
	} {
		if e := b.Write(c.n, 7, c.body); e != c.want || b.Size() != 0 {
			t.Errorf("Write(%d, %d bytes): %v, Size %d; want %v", c.n, len(c.body), e, b.Size(), c.want)
		}
	}
	if told := secondModel().unlike(b, func(_ uint32, serial uint64) bool { return serial == 2 }); told != "" {
		t.Error("behind what was refused: ", told)
	}
	for i, c := range []content{{0, ""}, {255, sized996()}, {83, "\x00"}, {9, "last"}} {
		mustBe(t, "Write", b.Write(2, c.kind, c.body), api.OK)
		wantPage(t, b, api.Page{Kind: c.kind, Number: 2, Body: c.body})
		if b.Size() != 2 {
			t.Errorf("write %d: Size %d", i, b.Size())
		}
	}
	mustBe(t, "a big one behind", b.Write(2, 1, sized997()), api.ErrBig)
	mustBe(t, "Write", b.Write(1, 255, sized996()), api.OK)
	mustBe(t, "Commit", b.Commit(), api.OK)
	wantPage(t, s, api.Page{Kind: 9, Number: 2, Serial: 3, Body: "last"})
	wantPage(t, s, api.Page{Kind: 255, Number: 1, Serial: 3, Body: sized996()})
}

// P7.7: the least free page, as the batch sees it; one that it released, too.
func TestAlloc(t *testing.T) {
	d := blank(t, 30)
	s := mustOpen(t, d, 20)
	b := s.Begin()
	if n, e := b.Alloc(1, sized997()); n != 0 || e != api.ErrBig || b.Size() != 0 {
		t.Errorf("a big one: %d, %v", n, e)
	}
	for n := uint32(1); n <= 9; n++ {
		mustAlloc(t, b, uint8(n), fmt.Sprint("body ", n), n)
		wantPage(t, b, api.Page{Kind: uint8(n), Number: n, Body: fmt.Sprint("body ", n)})
	}
	for _, body := range []string{"", "x", sized996()} {
		if n, e := b.Alloc(1, body); n != 0 || e != api.ErrFull {
			t.Errorf("none is free: %d, %v", n, e)
		}
	}
	if n, e := b.Alloc(1, sized997()); n != 0 || e != api.ErrBig {
		t.Errorf("a big one, and none is free: %d, %v", n, e)
	}
	if b.Size() != 10 || s.Free() != 9 {
		t.Errorf("Size %d, Free %d", b.Size(), s.Free())
	}
	mustBe(t, "Commit", b.Commit(), api.OK)
	if s.Free() != 0 {
		t.Errorf("Free %d", s.Free())
	}
	b = s.Begin()
	for _, n := range []uint32{7, 3, 9} {
		mustBe(t, "Release", b.Release(n), api.OK)
	}
	mustAlloc(t, b, 33, sized996(), 3)
	mustAlloc(t, b, 77, "", 7)
	mustBe(t, "Release", b.Release(1), api.OK)
	mustAlloc(t, b, 11, "first", 1)
	mustBe(t, "Commit", b.Commit(), api.OK)
	wantPage(t, s, api.Page{Kind: 33, Number: 3, Serial: 3, Body: sized996()})
	wantPage(t, s, api.Page{Kind: 77, Number: 7, Serial: 3})
	wantPage(t, s, api.Page{Kind: 11, Number: 1, Serial: 3, Body: "first"})
	wantPage(t, s, api.Page{Kind: 2, Number: 2, Serial: 2, Body: "body 2"})
	mustAlloc(t, s.Begin(), 1, "", 9)
}

// P7.8: what is wrong, in its order; a root is not released, as the batch sees the roots.
func TestRelease(t *testing.T) {
	_, s := second(t)
	b := s.Begin()
	for n, want := range map[uint32]api.Errno{0: api.ErrArg, 1: api.ErrArg, 3: api.ErrFree, 4: api.ErrArg, 7: api.ErrArg, 1<<32 - 1: api.ErrArg} {
		if e := b.Release(n); e != want || b.Size() != 0 {
			t.Errorf("Release(%d): %v, want %v", n, e, want)
		}
	}
	mustBe(t, "SetRoot", b.SetRoot(7, 2), api.OK)
	mustBe(t, "a new root", b.Release(2), api.ErrArg)
	mustBe(t, "SetRoot", b.SetRoot(0, 2), api.OK)
	mustBe(t, "one that is a root no more", b.Release(1), api.OK)
	mustBe(t, "again", b.Release(1), api.ErrFree)
	mustBe(t, "Write", b.Write(1, 1, ""), api.ErrFree)
	mustBe(t, "SetRoot", b.SetRoot(0, 0), api.OK)
	mustBe(t, "a root of two less one", b.Release(2), api.ErrArg)
	mustBe(t, "SetRoot", b.SetRoot(7, 0), api.OK)
	mustBe(t, "Release", b.Release(2), api.OK)
	mustBe(t, "Commit", b.Commit(), api.OK)
	wantStore(t, "all released", s, bare(4), 3)
}

// P7.9: what is wrong, in its order; roots are set to pages in use and to 0, several to one page, too.
func TestSetRoot(t *testing.T) {
	d, s := second(t)
	b := s.Begin()
	for _, c := range []struct {
		i    int
		n    uint32
		want api.Errno
	}{
		{-1, 1, api.ErrArg}, {8, 1, api.ErrArg}, {math.MinInt, 0, api.ErrArg}, {math.MaxInt, 0, api.ErrArg}, {256, 1, api.ErrArg},
		{0, 4, api.ErrArg}, {0, 5, api.ErrArg}, {0, 1 << 31, api.ErrArg}, {0, 1<<32 - 1, api.ErrArg}, {1, 3, api.ErrFree}, {7, 3, api.ErrFree},
		{8, 3, api.ErrArg}, {-1, 9, api.ErrArg},
	} {
		if e := b.SetRoot(c.i, c.n); e != c.want || b.Size() != 0 || b.Root(0) != 1 {
			t.Errorf("SetRoot(%d, %d): %v, want %v", c.i, c.n, e, c.want)
		}
	}
	for i := range 8 {
		mustBe(t, "SetRoot", b.SetRoot(i, uint32(i%3)), api.OK)
		if b.Root(i) != uint32(i%3) {
			t.Errorf("Root(%d) is %d", i, b.Root(i))
		}
	}
	mustAlloc(t, b, 3, "c", 3)
	mustBe(t, "SetRoot", b.SetRoot(6, 3), api.OK)
	if s.Root(0) != 1 || s.Root(6) != 0 {
		t.Error("the store's roots ahead of Commit")
	}
	mustBe(t, "Commit", b.Commit(), api.OK)
	m := model{4, [8]uint32{0, 1, 2, 0, 1, 2, 3, 1}, map[uint32]content{1: {1, "a"}, 2: {2, "b"}, 3: {3, "c"}}}
	wantStore(t, "behind it", s, m, 3)
	wantStore(t, "opened anew", mustOpen(t, d, 4), m, 3)
	b = s.Begin()
	for i := range 8 {
		mustBe(t, "SetRoot", b.SetRoot(i, 0), api.OK)
	}
	mustBe(t, "Commit", b.Commit(), api.OK)
	m.roots = [8]uint32{}
	wantStore(t, "no roots", s, m, 4)
}

// P7.10: how many pages go to the journal: the head, and each that was written or taken and is in use.
func TestSize(t *testing.T) {
	_, s := second(t)
	b := s.Begin()
	step := func(what string, e api.Errno, want int) {
		t.Helper()
		if e != api.OK || b.Size() != want {
			t.Errorf("%s: %v, Size %d; want %d", what, e, b.Size(), want)
		}
	}
	step("nothing", api.OK, 0)
	b.Read(1)
	step("a read", api.OK, 0)
	step("a write", b.Write(1, 1, "a"), 2)
	step("another one of it", b.Write(1, 1, "x"), 2)
	step("a second page", b.Write(2, 1, "x"), 3)
	step("released", b.Release(2), 2)
	_, e := b.Alloc(5, "")
	step("taken again", e, 3)
	_, e = b.Alloc(5, "")
	step("taken", e, 4)
	step("released", b.Release(3), 3)
	step("a root", b.SetRoot(3, 1), 3)
	for what, act := range map[string]func(b *store.Batch) api.Errno{
		"a root as it was": func(b *store.Batch) api.Errno { return b.SetRoot(0, 1) },
		"no root":          func(b *store.Batch) api.Errno { return b.SetRoot(4, 0) },
		"a release":        func(b *store.Batch) api.Errno { return b.Release(2) },
		"taken and given back": func(b *store.Batch) api.Errno {
			n, _ := b.Alloc(1, "x")
			return b.Release(n)
		},
		"written and given back": func(b *store.Batch) api.Errno {
			b.Write(2, 1, "x")
			return b.Release(2)
		},
	} {
		b = s.Begin()
		step(what, act(b), 1)
	}
}

// P7.11: a batch of which nothing was asked: it ends, and the device is asked for nothing.
func TestCommitOfNothing(t *testing.T) {
	d, _ := second(t)
	w := watched(d)
	s := mustOpen(t, w, 4)
	b := s.Begin()
	b.Write(3, 1, "refused")
	b.SetRoot(8, 1)
	b.Release(1)
	b.Alloc(1, sized997())
	w.asked, w.counts = nil, 0
	mustBe(t, "Commit", b.Commit(), api.OK)
	if len(w.asked) != 0 || w.counts != 0 {
		t.Errorf("%q", w.asked)
	}
	wantEnded(t, "behind it", b, api.ErrDone)
	d.Fuse(0)
	d.Sync()
	mustBe(t, "without power", s.Begin().Commit(), api.OK)
	d.Crash(api.Fate{})
	wantStore(t, "behind it", s, secondModel(), 2)
}

// P7.11: more pages than the journal has room for: nothing has changed, and the batch goes on.
func TestCommitOfTooMany(t *testing.T) {
	for _, c := range [][3]int{{8, 4, 3}, {8, 2, 1}, {8, 3, 2}, {60, 24, 23}, {500, 199, 198}, {500, 200, 198}, {500, 290, 198}} {
		d := blank(t, c[0])
		w := watched(d)
		s := mustOpen(t, w, c[1])
		b := s.Begin()
		m := bare(c[0] - c[1])
		for n := 1; n <= c[2]; n++ {
			mustAlloc(t, b, uint8(n), fmt.Sprint(n), uint32(n))
			m.used[uint32(n)] = content{uint8(n), fmt.Sprint(n)}
		}
		w.asked, w.counts = nil, 0
		for range 2 {
			mustBe(t, fmt.Sprint(c), b.Commit(), api.ErrBatch)
		}
		if len(w.asked) != 0 || w.counts != 0 || s.Serial() != 1 || s.Free() != s.Pages()-1 || b.Size() != c[2]+1 {
			t.Errorf("%v: %q, Serial %d", c, w.asked, s.Serial())
		}
		if told := m.unlike(b, func(_ uint32, serial uint64) bool { return serial == 0 }); told != "" {
			t.Errorf("%v: the batch: %s", c, told)
		}
		mustBe(t, "Release", b.Release(1), api.OK)
		delete(m.used, 1)
		mustBe(t, fmt.Sprint(c), b.Commit(), api.OK)
		wantStore(t, fmt.Sprint(c), s, m, 2)
		wantStore(t, fmt.Sprint(c, " opened anew"), mustOpen(t, d, c[1]), m, 2)
	}
}

// third is a batch over the second example that writes 1, takes 3, gives 2 back, and sets a root.
func third(t *testing.T, s *store.Store) (*store.Batch, model) {
	t.Helper()
	b := s.Begin()
	mustAlloc(t, b, 3, "c", 3)
	mustBe(t, "Write", b.Write(1, 9, "A"), api.OK)
	mustBe(t, "Release", b.Release(2), api.OK)
	mustBe(t, "SetRoot", b.SetRoot(1, 3), api.OK)
	return b, model{4, [8]uint32{1, 3}, map[uint32]content{1: {9, "A"}, 3: {3, "c"}}}
}

// P7.11: just these calls of the device, in this order.
func TestCommitsCalls(t *testing.T) {
	d, _ := second(t)
	w := watched(d)
	s := mustOpen(t, w, 4)
	b, m := third(t, s)
	w.asked, w.counts = nil, 0
	mustBe(t, "Commit", b.Commit(), api.OK)
	want := []string{"write 1", "write 2", "write 3", "write 0", "sync", "write 4", "write 5", "write 7", "sync"}
	if !slices.Equal(w.asked, want) || w.counts != 0 {
		t.Errorf("%q, and %d times Pages", w.asked, w.counts)
	}
	wantStore(t, "behind it", s, m, 3)
}

// P7.11: how a batch lies on the device behind Commit, page by page: in the journal, and home; a released page is left as it lay.
func TestCommitLaysABatch(t *testing.T) {
	d, s := second(t)
	want := d.Durable()
	b, m := third(t, s)
	mustBe(t, "Commit", b.Commit(), api.OK)
	l := []api.Page{{Kind: 83, Body: m.headBody()}, {Kind: 9, Number: 1, Body: "A"}, {Kind: 3, Number: 3, Body: "c"}}
	copy(want, batchByHand(t, 3, l...))
	for _, p := range l {
		p.Serial = 3
		want[4+p.Number] = encoded(t, p)
	}
	if got := d.Durable(); d.Pending() != 0 || !slices.Equal(got, want) {
		for n := range got {
			if got[n] != want[n] {
				t.Errorf("page %d is another one", n)
			}
		}
	}
	b = s.Begin()
	mustBe(t, "SetRoot", b.SetRoot(1, 0), api.OK)
	mustBe(t, "Commit", b.Commit(), api.OK)
	if p, e := page.Decode([]byte(d.Durable()[4]), 0); e != api.OK || p.Serial != 4 || p.Body != headBody(4, [8]uint32{1}, 1, 3) {
		t.Errorf("the head alone: %v, %v", p, e)
	}
	wantPage(t, s, api.Page{Kind: 9, Number: 1, Serial: 3, Body: "A"})
}

// P7.11: the first call that is refused is the answer, and no other is made behind it.
func TestCommitIsRefusedByTheDevice(t *testing.T) {
	for at := range 9 {
		for _, with := range []api.Errno{api.ErrPower, api.ErrArg, api.ErrBatch, api.ErrDone, -5} {
			d, _ := second(t)
			w := watched(d)
			s := mustOpen(t, w, 4)
			b, m := third(t, s)
			w.asked, w.refuse, w.with = nil, at, with
			mustBe(t, fmt.Sprint("call ", at), b.Commit(), with)
			if len(w.asked) != at+1 {
				t.Errorf("call %d refused: %q", at, w.asked)
			}
			w.refuse = -1
			wantEnded(t, fmt.Sprint("call ", at), b, api.ErrDone)
			if _, e := s.Read(1); e != api.ErrDone {
				t.Errorf("call %d refused: Read: %v", at, e)
			}
			again := mustOpen(t, w, 4)
			if at < 4 {
				// Neither header lies there with the slots of its own, or the old one does.
				wantStore(t, fmt.Sprint("call ", at), again, secondModel(), 2)
			} else {
				wantStore(t, fmt.Sprint("call ", at), again, m, 3)
			}
		}
	}
}

// P7.11: the greatest serial is committed; one above it journal.Put refuses with ErrArg, and the store is dead.
func TestCommitAtTheEnd(t *testing.T) {
	head := encoded(t, api.Page{Kind: 83, Serial: top - 1, Body: headBody(4, [8]uint32{})})
	d := byHand(t, nil, head)
	w := watched(d)
	s := mustOpen(t, w, 4)
	b := s.Begin()
	mustAlloc(t, b, 1, "x", 1)
	mustBe(t, "Commit", b.Commit(), api.OK)
	m := bare(4)
	m.used[1] = content{1, "x"}
	wantStore(t, "the greatest", s, m, top)
	b = s.Begin()
	mustBe(t, "Write", b.Write(1, 2, "y"), api.OK)
	w.asked = nil
	mustBe(t, "one above", b.Commit(), api.ErrArg)
	if len(w.asked) != 0 {
		t.Errorf("one above: %q", w.asked)
	}
	if _, e := s.Read(1); e != api.ErrDone || s.Serial() != top {
		t.Errorf("Read: %v, Serial %d", e, s.Serial())
	}
	wantEnded(t, "the batch", b, api.ErrDone)
	wantNoStore(t, "opened anew", d, 4, api.ErrBroken)
}

// P7.11: a store with as many pages as there may be: its head tells them all.
func TestAGreatStore(t *testing.T) {
	d := blank(t, 4096)
	s := mustOpen(t, d, 199)
	m := bare(3897)
	for n := uint32(1); int(n) < m.pages; {
		b := s.Begin()
		for range min(197, m.pages-int(n)) {
			mustAlloc(t, b, uint8(n), fmt.Sprint(n), n)
			m.used[n] = content{uint8(n), fmt.Sprint(n)}
			n++
		}
		mustBe(t, "Commit", b.Commit(), api.OK)
	}
	b := s.Begin()
	if n, e := b.Alloc(1, ""); n != 0 || e != api.ErrFull {
		t.Errorf("Alloc: %d, %v", n, e)
	}
	mustBe(t, "SetRoot", b.SetRoot(0, 3896), api.OK)
	mustBe(t, "SetRoot", b.SetRoot(1, 3897), api.ErrArg)
	mustBe(t, "Commit", b.Commit(), api.OK)
	m.roots[0] = 3896
	wantStore(t, "full", mustOpen(t, d, 199), m, s.Serial())
}

// R3: what a device is handed may be kept by it, and what it hands out may be one memory for all.
type greedy struct {
	disk.Device
	memory []byte
}

func (g *greedy) Read(n int) ([]byte, api.Errno) {
	b, e := g.Device.Read(n)
	copy(g.memory, b)
	return g.memory[:len(b)], e
}

func (g *greedy) Write(n int, b []byte) api.Errno {
	e := g.Device.Write(n, b)
	clear(b[:cap(b)])
	return e
}

func TestAGreedyDevice(t *testing.T) {
	d := blank(t, 8)
	s := mustOpen(t, &greedy{d, make([]byte, 1024)}, 4)
	b := s.Begin()
	mustAlloc(t, b, 1, "a", 1)
	mustAlloc(t, b, 2, "b", 2)
	mustBe(t, "SetRoot", b.SetRoot(0, 1), api.OK)
	mustBe(t, "Commit", b.Commit(), api.OK)
	one, _ := s.Read(1)
	s.Read(2)
	if one != (api.Page{Kind: 1, Number: 1, Serial: 2, Body: "a"}) {
		t.Errorf("a page changed behind its Read: %v", one)
	}
	wantStore(t, "a greedy device", s, secondModel(), 2)
	wantStore(t, "opened anew", mustOpen(t, d, 4), secondModel(), 2)
}
