package store_test

import (
	"fmt"
	"math/rand"
	"slices"
	"testing"

	"concord/api"
	"concord/disk"
	"concord/journal"
	"concord/page"
	"concord/store"
)

// fates are all that may happen to n pending writes, the cuts at some places.
func fates(n int) []api.Fate {
	var l []api.Fate
	for bits := range 1 << n {
		keep := make([]bool, n)
		for i := range keep {
			keep[i] = bits>>i&1 == 1
		}
		l = append(l, api.Fate{Keep: keep, Torn: -1})
		for torn := range n {
			for _, cut := range []int{0, 1, 2, 3, 64, 127, 128} {
				l = append(l, api.Fate{Keep: keep, Torn: torn, Cut: cut})
			}
		}
	}
	return l
}

// someFate is one that leaves any part of n pending writes.
func someFate(source *rand.Rand, n int) api.Fate {
	fate := api.Fate{Torn: source.Intn(n+2) - 1, Cut: source.Intn(131) - 1}
	for range n {
		fate.Keep = append(fate.Keep, source.Intn(2) == 0)
	}
	return fate
}

// reopened opens a store whose Open is broken off at each fuse, in some way, ahead of that.
func reopened(t *testing.T, source *rand.Rand, d *disk.Disk, front int) *store.Store {
	t.Helper()
	for fuse := 0; ; fuse++ {
		d.Fuse(fuse)
		s, e := store.Open(d, front)
		if e == api.OK {
			d.Fuse(-1)
			return s
		}
		if s != nil || e != api.ErrPower {
			t.Fatalf("Open broken off at %d: %v, %v", fuse, s, e)
		}
		d.Crash(someFate(source, d.Pending()))
	}
}

// whichOf says of which of two models a store is: 0, 1, or neither.
func whichOf(s *store.Store, old, next model) int {
	for i, m := range []model{old, next} {
		if m.unlikeStore(s) == "" {
			return i
		}
	}
	return -1
}

// changes are batches over the second example, of each size that there may be, with what they make of it.
func changes() map[string]struct {
	do   func(b *store.Batch)
	next model
	size int
} {
	type change = struct {
		do   func(b *store.Batch)
		next model
		size int
	}
	return map[string]change{
		"the head alone": {func(b *store.Batch) { b.Release(2); b.SetRoot(7, 1) }, model{4, [8]uint32{0: 1, 7: 1}, map[uint32]content{1: {1, "a"}}}, 1},
		"a page":         {func(b *store.Batch) { b.Write(1, 1, "x") }, model{4, [8]uint32{1}, map[uint32]content{1: {1, "x"}, 2: {2, "b"}}}, 2},
		"two pages": {func(b *store.Batch) { b.Write(2, 2, "y"); b.Alloc(3, "z") },
			model{4, [8]uint32{1}, map[uint32]content{1: {1, "a"}, 2: {2, "y"}, 3: {3, "z"}}}, 3},
		"one for another": {func(b *store.Batch) { b.Release(2); b.Alloc(9, "n"); b.Alloc(8, "m"); b.SetRoot(0, 3) },
			model{4, [8]uint32{3}, map[uint32]content{1: {1, "a"}, 2: {9, "n"}, 3: {8, "m"}}}, 3},
	}
}

// P7.13: all or nothing: every size, every fuse, every fate of what was pending, and Opens that are broken off behind it.
func TestAllOrNothing(t *testing.T) {
	d, _ := second(t)
	lies := d.Durable()
	source := rand.New(rand.NewSource(713))
	for what, c := range changes() {
		acts := 2*c.size + 3
		seen := map[int]int{}
		for fuse := range acts + 1 {
			pending := fuse
			switch {
			case fuse == acts:
				pending = 0
			case fuse > c.size+1:
				pending = fuse - c.size - 2
			}
			for _, fate := range fates(pending) {
				d := load(t, lies)
				s := mustOpen(t, d, 4)
				b := s.Begin()
				c.do(b)
				d.Fuse(fuse)
				e := b.Commit()
				told := fmt.Sprintf("%s, fuse %d, fate %v", what, fuse, fate)
				if (e == api.OK) != (fuse == acts) || e != api.OK && e != api.ErrPower || d.Pending() != pending {
					t.Fatalf("%s: Commit: %v, %d are pending", told, e, d.Pending())
				}
				d.Crash(fate)
				s = reopened(t, source, d, 4)
				is := whichOf(s, secondModel(), c.next)
				if is < 0 || is == 0 && fuse >= c.size+2 || is == 1 && fuse < c.size+1 || s.Serial() != uint64(2+is) {
					t.Fatalf("%s: it is the store %d, Serial %d", told, is, s.Serial())
				}
				seen[is]++
			}
		}
		if seen[0] == 0 || seen[1] == 0 {
			t.Errorf("%s: %v: the test has lost its weight", what, seen)
		}
	}
}

// P7.13: a new store, laid out while the power goes: the next Open lays it out.
func TestLayOutAllOrNothing(t *testing.T) {
	source := rand.New(rand.NewSource(714))
	for fuse := range 5 {
		for _, fate := range fates([]int{0, 1, 2, 0, 1}[fuse]) {
			d := blank(t, 8)
			d.Fuse(fuse)
			if s, e := store.Open(d, 4); s != nil || e != api.ErrPower {
				t.Fatalf("fuse %d: %v, %v", fuse, s, e)
			}
			d.Crash(fate)
			s := reopened(t, source, d, 4)
			if told := bare(4).unlikeStore(s); told != "" {
				t.Fatalf("fuse %d, fate %v: %s", fuse, fate, told)
			}
		}
	}
}

// someBody is a body of any length, so that pages differ in all their words.
func someBody(source *rand.Rand) string {
	b := make([]byte, source.Intn(997))
	source.Read(b)
	return string(b)
}

// run is a store with what it should hold, and a batch with what that sees.
type run struct {
	t      *testing.T
	source *rand.Rand
	d      *disk.Disk
	front  int
	s      *store.Store
	m      model
	b      *store.Batch
	sees   model
	wrote  map[uint32]bool
	acted  bool
	last   uint64 // the serial of the last store or batch
}

// some is a page that there is, or is not.
func (r *run) some() uint32 { return uint32(r.source.Intn(r.m.pages + 2)) }

// act does one thing to the batch and to what it should see, and holds their answers against one another.
func (r *run) act() {
	r.t.Helper()
	n, kind, body := r.some(), uint8(r.source.Intn(256)), someBody(r.source)
	switch r.source.Intn(5) {
	case 0:
		want := r.sees.refusal(n)
		mustBe(r.t, "Write", r.b.Write(n, kind, body), want)
		if want == api.OK {
			r.sees.used[n], r.wrote[n], r.acted = content{kind, body}, true, true
		}
	case 1:
		r.alloc(kind, body)
	case 2:
		want := r.sees.refusal(n)
		if want == api.OK && slices.Contains(r.sees.roots[:], n) {
			want = api.ErrArg
		}
		mustBe(r.t, "Release", r.b.Release(n), want)
		if want == api.OK {
			delete(r.sees.used, n)
			delete(r.wrote, n)
			r.acted = true
		}
	case 3:
		i := r.source.Intn(10) - 1
		want := r.sees.refusal(n)
		if n == 0 {
			want = api.OK
		}
		if i < 0 || i > 7 {
			want = api.ErrArg
		}
		mustBe(r.t, "SetRoot", r.b.SetRoot(i, n), want)
		if want == api.OK {
			r.sees.roots[i], r.acted = n, true
		}
	}
	size := 0
	if r.acted {
		size = 1 + len(r.wrote)
	}
	if r.b.Size() != size {
		r.t.Fatalf("Size is %d, want %d", r.b.Size(), size)
	}
}

// alloc takes the least free page, if there is one (P7.7, P7.15).
func (r *run) alloc(kind uint8, body string) {
	r.t.Helper()
	want := uint32(1)
	for r.sees.refusal(want) == api.OK {
		want++
	}
	if int(want) >= r.sees.pages {
		if n, e := r.b.Alloc(kind, body); n != 0 || e != api.ErrFull {
			r.t.Fatalf("Alloc: %d, %v", n, e)
		}
		return
	}
	mustAlloc(r.t, r.b, kind, body, want)
	r.sees.used[want], r.wrote[want], r.acted = content{kind, body}, true, true
}

// begin begins a batch, whether one is on or not.
func (r *run) begin() {
	r.b, r.sees, r.wrote, r.acted = r.s.Begin(), r.m.copied(), map[uint32]bool{}, false
}

// look holds the batch and the store against what they should be.
func (r *run) look() {
	r.t.Helper()
	own := func(n uint32, serial uint64) bool { return r.wrote[n] == (serial == 0) }
	if told := r.sees.unlike(r.b, own); told != "" {
		r.t.Fatal("the batch: ", told)
	}
	if told := r.m.unlikeStore(r.s); told != "" {
		r.t.Fatal("the store: ", told)
	}
}

// commit ends the batch, and looks at what the store is then.
func (r *run) commit() {
	r.t.Helper()
	size := r.b.Size()
	if size > journal.Room(r.front) {
		mustBe(r.t, "Commit", r.b.Commit(), api.ErrBatch)
		r.look()
		r.b.Drop()
		r.begin()
		return
	}
	if size > 0 && r.source.Intn(3) == 0 {
		r.broken(size)
	} else {
		mustBe(r.t, "Commit", r.b.Commit(), api.OK)
		r.m = r.sees
		if size > 0 && r.s.Serial() <= r.last {
			r.t.Fatalf("the Serial %d behind %d", r.s.Serial(), r.last)
		}
	}
	r.last = r.s.Serial()
	r.begin()
	r.look()
}

// broken lets the power go in the midst of a Commit (P7.13), and looks whether the serials rise (P7.14).
func (r *run) broken(size int) {
	r.t.Helper()
	fuse := r.source.Intn(2*size + 3)
	r.d.Fuse(fuse)
	mustBe(r.t, "Commit", r.b.Commit(), api.ErrPower)
	r.d.Crash(someFate(r.source, r.d.Pending()))
	r.s = reopened(r.t, r.source, r.d, r.front)
	if r.s.Serial() < r.last {
		r.t.Fatalf("opened anew: the Serial %d behind %d", r.s.Serial(), r.last)
	}
	switch is := whichOf(r.s, r.m, r.sees); {
	case is < 0 || fuse >= size+2 && r.sees.unlikeStore(r.s) != "" || fuse <= size && r.m.unlikeStore(r.s) != "":
		r.t.Fatalf("fuse %d of %d pages: it is the store %d", fuse, size, is)
	case is == 1:
		r.m = r.sees
	}
}

// P7.2 to P7.15: scripts of any acts, Commits, Drops, losses of power and Opens, held against a model.
func TestScripts(t *testing.T) {
	for seed := range int64(24) {
		source := rand.New(rand.NewSource(seed))
		front := 2 + source.Intn(7)
		d := blank(t, front+2+source.Intn(14))
		r := &run{t: t, source: source, d: d, front: front, s: reopened(t, source, d, front), m: bare(d.Pages() - front)}
		r.last = r.s.Serial()
		r.begin()
		r.look()
		for range 150 {
			for range source.Intn(6) {
				r.act()
			}
			switch source.Intn(8) {
			case 0:
				r.b.Drop()
				r.begin()
			case 1:
				r.s = reopened(t, source, d, front)
				r.begin()
			case 2:
				r.look()
			default:
				r.commit()
			}
		}
	}
}

// P7.13: what is left of a batch that was broken off never passes for a part of a later one.
func TestStaleSlots(t *testing.T) {
	d, _ := second(t)
	lies := d.Durable()
	two := func(s *store.Store, one, other string) api.Errno {
		b := s.Begin()
		b.Write(1, 1, one)
		b.Write(2, 2, other)
		return b.Commit()
	}
	for _, first := range fates(4) {
		for bits := range 16 {
			d := load(t, lies)
			s := mustOpen(t, d, 4)
			d.Fuse(4)
			mustBe(t, "Commit", two(s, "x", "y"), api.ErrPower)
			d.Crash(first)
			s = mustOpen(t, d, 4)
			one, _ := s.Read(1)
			ahead := secondModel()
			if one.Body == "x" {
				ahead.used[1], ahead.used[2] = content{1, "x"}, content{2, "y"}
			}
			if told := ahead.unlikeStore(s); told != "" {
				t.Fatalf("%v: %s", first, told)
			}
			d.Fuse(4)
			mustBe(t, "Commit", two(s, "p", "q"), api.ErrPower)
			d.Crash(api.Fate{Keep: []bool{bits&1 > 0, bits&2 > 0, bits&4 > 0, bits&8 > 0}, Torn: -1})
			next := ahead.copied()
			next.used[1], next.used[2] = content{1, "p"}, content{2, "q"}
			if is := whichOf(mustOpen(t, d, 4), ahead, next); is < 0 || (is == 1) != (bits == 15) {
				t.Fatalf("%v, then %d: it is the store %d", first, bits, is)
			}
		}
	}
}

// P7.15: no page is handed out twice, unless it was released between; not by the Allocs of several batches and stores either.
func TestItsOwnPages(t *testing.T) {
	source := rand.New(rand.NewSource(715))
	d := blank(t, 60)
	s := mustOpen(t, d, 20)
	out := map[uint32]bool{}
	for range 400 {
		b := s.Begin()
		next := map[uint32]bool{}
		for n := range out {
			next[n] = true
		}
		for range source.Intn(8) {
			if source.Intn(3) > 0 {
				n, e := b.Alloc(1, "")
				if e == api.OK && (next[n] || n == 0 || n >= 40) || e == api.ErrFull && len(next) != 39 {
					t.Fatalf("Alloc gives %d, %v", n, e)
				}
				if e == api.OK {
					next[n] = true
				}
			} else if n := uint32(source.Intn(40)); b.Release(n) == api.OK {
				delete(next, n)
			}
		}
		if source.Intn(4) == 0 {
			b.Drop()
		} else {
			mustBe(t, "Commit", b.Commit(), api.OK)
			out = next
		}
		if s.Free() != 39-len(out) {
			t.Fatalf("Free is %d, in use are %d", s.Free(), len(out))
		}
		if source.Intn(10) == 0 {
			s = mustOpen(t, d, 20)
		}
	}
}

// oracle is what Open should make of a disk of 8 pages with a journal of 4: an error, or a serial, and each page of home.
type oracle struct {
	e      api.Errno
	serial uint64
	roots  [8]uint32
	used   [4]bool
	home   [4]string
}

// foretold goes by the chapter's steps, byte by byte.
func foretold(t *testing.T, lies []string) oracle {
	t.Helper()
	f, e := journal.Scan(load(t, lies), 0, 4)
	if e != api.OK {
		t.Fatal(e)
	}
	var o oracle
	copy(o.home[:], lies[4:])
	for _, p := range f.Pages {
		if p.Number > 3 {
			return oracle{e: api.ErrBroken}
		}
		o.home[p.Number] = encoded(t, p)
	}
	if o.home[0] == ended(0, 0, 0) && !f.Whole && f.Top < top {
		o.home[0] = encoded(t, api.Page{Kind: 83, Serial: f.Top + 1, Body: headBody(4, [8]uint32{})})
	}
	p, e := page.Decode([]byte(o.home[0]), 0)
	if e != api.OK || p.Kind != 83 || len(p.Body) != 37 || p.Body[:4] != fixed(4) || p.Serial >= top || f.Top >= top {
		return oracle{e: api.ErrBroken}
	}
	set := p.Body[36]
	if set&1 == 1 || set >= 16 {
		return oracle{e: api.ErrBroken}
	}
	for i := range o.used {
		o.used[i] = set>>i&1 == 1
	}
	for i := range o.roots {
		at := p.Body[4+4*i:]
		o.roots[i] = uint32(at[0])<<24 | uint32(at[1])<<16 | uint32(at[2])<<8 | uint32(at[3])
		if o.roots[i] > 3 || o.roots[i] > 0 && !o.used[o.roots[i]] {
			return oracle{e: api.ErrBroken}
		}
	}
	o.serial = p.Serial
	return o
}

// someHead is a head that is right, or nearly.
func someHead(source *rand.Rand) api.Page {
	var roots [8]uint32
	roots[source.Intn(8)] = uint32(source.Intn(4))
	p := api.Page{Kind: 83, Body: headBody(4, roots, 1+source.Intn(3), 1+source.Intn(3), 1+source.Intn(3))}
	if source.Intn(4) == 0 {
		b := []byte(p.Body)
		b[source.Intn(len(b))] ^= 1 << source.Intn(8)
		p.Body = string(b)
	}
	return p
}

// someSerial is any, with those at its end among them.
func someSerial(source *rand.Rand) uint64 {
	return []uint64{0, 1, 2, 3, uint64(source.Intn(1000)), top - 1, top - 2, top}[source.Intn(8)]
}

// somePage is what may lie on the home page n.
func somePage(t *testing.T, source *rand.Rand, n uint32) string {
	p := api.Page{Kind: uint8(source.Intn(256)), Number: n, Body: someBody(source)}
	if n == 0 && source.Intn(8) > 0 {
		p = someHead(source)
	}
	p.Serial = someSerial(source)
	switch source.Intn(10) {
	case 0:
		return ended(0, 0, 0)
	case 1:
		return ended(byte(source.Intn(256)), someSerial(source), someSerial(source))
	case 2:
		p.Number = uint32(source.Intn(6))
	}
	return encoded(t, p)
}

// someDisk is one of eight pages on which anything lies.
func someDisk(t *testing.T, source *rand.Rand) []string {
	lies := make([]string, 8)
	for n := range lies {
		lies[n] = somePage(t, source, uint32(max(n-4, 0)))
	}
	var l []api.Page
	if source.Intn(3) > 0 {
		l = append(l, someHead(source))
	}
	if source.Intn(2) == 0 {
		l = append(l, api.Page{Number: 1 + uint32(source.Intn(3)), Body: someBody(source)})
	}
	switch source.Intn(3) {
	case 0:
		copy(lies, batchByHand(t, max(someSerial(source), 1), l...))
	case 1:
		copy(lies, slices.Repeat([]string{ended(0, 0, 0)}, 4))
	}
	if source.Intn(8) == 0 {
		lies[4] = ended(0, 0, 0)
	}
	return lies
}

// P7.16: whatever lies on a device, Open answers as the chapter says, and so do the reads and a batch behind it.
func TestAnyDevice(t *testing.T) {
	source := rand.New(rand.NewSource(716))
	opened := 0
	for round := range 6000 {
		lies := someDisk(t, source)
		want := foretold(t, lies)
		d := load(t, lies)
		s, e := store.Open(d, 4)
		if e != want.e || (s != nil) != (e == api.OK) {
			t.Fatalf("round %d: %v, %v; want %v", round, s, e, want.e)
		}
		if s == nil {
			continue
		}
		opened++
		want.hold(t, s)
		anyBatch(t, source, d, s)
	}
	if opened < 1500 || opened > 5000 {
		t.Errorf("%d of 6000 were opened: the test has lost its weight", opened)
	}
}

// hold looks at a store that was opened.
func (o oracle) hold(t *testing.T, s *store.Store) {
	t.Helper()
	free := 3
	for n := uint32(1); n < 4; n++ {
		p, e := page.Decode([]byte(o.home[n]), n)
		switch {
		case !o.used[n]:
			p, e = api.Page{}, api.ErrFree
		case e != api.OK:
			e = api.ErrBroken
		}
		if o.used[n] {
			free--
		}
		if got, ge := s.Read(n); got != p || ge != e {
			t.Fatalf("Read(%d): %v, %v; want %v, %v", n, got, ge, p, e)
		}
	}
	for i := range 8 {
		if s.Root(i) != o.roots[i] {
			t.Fatalf("Root(%d) is %d", i, s.Root(i))
		}
	}
	if s.Serial() != o.serial || s.Free() != free || s.Pages() != 4 {
		t.Fatalf("Serial %d, Free %d, Pages %d", s.Serial(), s.Free(), s.Pages())
	}
}

// anyBatch writes all pages in use that fit a batch; behind that they can be read, of this store and of the next.
func anyBatch(t *testing.T, source *rand.Rand, d *disk.Disk, s *store.Store) {
	t.Helper()
	b := s.Begin()
	for n := uint32(1); n < 4 && b.Size() < 3; n++ {
		b.Write(n, uint8(n), fmt.Sprint("written ", n))
	}
	wrote := b.Size() - 1
	mustBe(t, "Commit", b.Commit(), api.OK)
	stores := []*store.Store{s}
	if s.Serial() < top {
		stores = append(stores, reopened(t, source, d, 4))
	}
	for _, s := range stores {
		read := 0
		for n := uint32(1); n < 4; n++ {
			if p, e := s.Read(n); e == api.OK && p.Body == fmt.Sprint("written ", n) && p.Serial == s.Serial() {
				read++
			}
		}
		if read != max(wrote, 0) {
			t.Fatalf("%d pages were written, %d are read", wrote, read)
		}
	}
}
