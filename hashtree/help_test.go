package hashtree_test

import (
	"fmt"
	"maps"
	"math/rand"
	"slices"
	"sync"
	"testing"

	"concord/api"
	"concord/btree"
	"concord/disk"
	"concord/dvv"
	"concord/hashtree"
	"concord/node"
	"concord/object"
	"concord/store"
	"concord/tree"
)

const (
	objectsRoot = 0
	sumsRoot    = 1
	marksRoot   = 2
)

// keys are some by their segments: fifteen a segment, more or less.
var keys = sync.OnceValue(func() *[4096][]string {
	var all [4096][]string
	for i := range 60000 {
		key := fmt.Sprintf("%04x", i)
		all[segmentOf(key)] = append(all[segmentOf(key)], key)
	}
	return &all
})

// keyIn is a key of a segment.
func keyIn(segment int) string { return keys()[segment][0] }

// wanted is what there must be, as the chapter tells it.
type wanted struct {
	width                   int
	objects                 objects
	sums                    map[string]string // the cells of the sums, as they lie
	marks                   map[string]string // the cells of the marks, as they lie
	waits                   map[int]bool
	closed, valid, building bool
}

// world is a tree over a store over a disk, with what there must be.
type world struct {
	t       *testing.T
	d       *disk.Disk
	s       *store.Store
	h       *hashtree.Tree
	journal int
	wanted
}

func wantOK(t *testing.T, what string, e api.Errno) {
	t.Helper()
	if e != api.OK {
		t.Fatalf("%s: %v", what, e)
	}
}

func want(t *testing.T, what string, got, want api.Errno) {
	t.Helper()
	if got != want {
		t.Errorf("%s: %v, want %v", what, got, want)
	}
}

func opened(t *testing.T, d disk.Device, journal int) *store.Store {
	t.Helper()
	s, e := store.Open(d, journal)
	wantOK(t, "store.Open", e)
	return s
}

// blank is the store of a new disk.
func blank(t *testing.T, pages, journal int) (*disk.Disk, *store.Store) {
	t.Helper()
	d, e := disk.New(pages)
	wantOK(t, "disk.New", e)
	return d, opened(t, d, journal)
}

// fresh is a tree over a new disk.
func fresh(t *testing.T, pages, journal, width int) *world {
	t.Helper()
	w := &world{t: t, journal: journal}
	w.d, w.s = blank(t, pages, journal)
	h, e := hashtree.Open(w.s, width)
	wantOK(t, "Open", e)
	w.h = h
	w.wanted = wanted{width: width, objects: objects{}, sums: map[string]string{}, waits: map[int]bool{}, closed: true, valid: true,
		marks: map[string]string{"width": string([]byte{byte(width)}), "mark": "\x01"}}
	return w
}

// plain is a tree as in the chapter's examples.
func plain(t *testing.T) *world {
	t.Helper()
	return fresh(t, 200, api.Journal, 4)
}

// edit is what a batch does with an object: a put of a value, or its cell is taken out.
type edit struct {
	key, value string
	gone       bool
}

// batch is a batch in which objects are changed and their segments touched, and what the objects are behind it.
func (w *world) batch(edits ...edit) (*store.Batch, objects) {
	w.t.Helper()
	b, after := w.s.Begin(), w.objects.copied()
	for _, x := range edits {
		wantOK(w.t, "change", editIn(b, after, x))
		wantOK(w.t, "Touch", w.h.Touch(b, segmentOf(x.key)))
	}
	return b, after
}

// editIn changes an object in a batch, and among the objects.
func editIn(b *store.Batch, o objects, x edit) api.Errno {
	place := two(segmentOf(x.key))
	if x.gone {
		delete(o, x.key)
		_, e := btree.Delete(b, objectsRoot, place+x.key)
		return e
	}
	state, _, e := dvv.Put(o[x.key], o[x.key].Seen, 1, x.value, false)
	if e != api.OK {
		return e
	}
	c, e := object.Pack(api.Object{Key: x.key, State: state})
	if e != api.OK {
		return e
	}
	o[x.key] = state
	return btree.Put(b, objectsRoot, c.Key, c.Value)
}

// committed notes that a batch has changed the objects.
func (w *world) committed(after objects) {
	w.objects = after
	w.marks["mark"] = "\x00"
}

// touched tells the tree of a batch that was committed.
func (w *world) touched(edits ...edit) {
	w.t.Helper()
	w.closed = false
	for _, x := range edits {
		wantOK(w.t, "Touched", w.h.Touched(segmentOf(x.key)))
		if w.valid || w.building {
			w.waits[segmentOf(x.key)] = true
		}
	}
}

// change changes objects in one batch.
func (w *world) change(edits ...edit) {
	w.t.Helper()
	b, after := w.batch(edits...)
	wantOK(w.t, "Commit", b.Commit())
	w.committed(after)
	w.touched(edits...)
}

// put puts objects, each in a batch of its own.
func (w *world) put(value string, keys ...string) {
	w.t.Helper()
	for _, key := range keys {
		w.change(edit{key: key, value: value})
	}
}

func (w *world) refresh() {
	w.t.Helper()
	wantOK(w.t, "Refresh", w.h.Refresh())
	w.settled()
}

func (w *world) finish() {
	w.t.Helper()
	wantOK(w.t, "Finish", w.h.Finish())
	w.settled()
}

// settled notes what is behind Refresh and Finish.
func (w *world) settled() {
	w.sums = w.objects.sums(w.width)
	w.marks["mark"] = "\x01"
	w.closed, w.valid, w.building = true, true, false
	clear(w.waits)
}

func (w *world) begin() {
	w.t.Helper()
	wantOK(w.t, "Begin", w.h.Begin())
	w.marks["mark"] = "\x00"
	w.closed, w.valid, w.building = false, false, true
	for n := range 4096 {
		w.waits[n] = true
	}
}

func (w *world) rehash(segments ...int) {
	w.t.Helper()
	for _, n := range segments {
		wantOK(w.t, "Rehash", w.h.Rehash(n))
		delete(w.waits, n)
		if sum := segmentSum(n, w.objects.entries(n, w.width), w.width); sum != "" {
			w.sums[sumKey(3, n)] = sum
		} else {
			delete(w.sums, sumKey(3, n))
		}
	}
}

// strange writes a cell into a table by a hand that is not the tree's, or takes one out.
func (w *world) strange(slot int, key, value string, gone bool) {
	w.t.Helper()
	b := w.s.Begin()
	var e api.Errno
	if gone {
		_, e = btree.Delete(b, slot, key)
	} else {
		e = btree.Put(b, slot, key, value)
	}
	wantOK(w.t, "a strange hand", e)
	wantOK(w.t, "Commit", b.Commit())
}

// again opens the store and the tree anew, as they lie.
func (w *world) again() {
	w.t.Helper()
	w.s = opened(w.t, w.d, w.journal)
	h, e := hashtree.Open(w.s, w.width)
	wantOK(w.t, "Open", e)
	w.h = h
	w.closed = w.marks["mark"] == "\x01"
	w.valid, w.building = w.closed, false
	clear(w.waits)
}

// cells are those of a table, by their keys.
func cells(t *testing.T, s *store.Store, slot int) map[string]string {
	t.Helper()
	v, m := btree.Look(s, s.Root(slot)), map[string]string{}
	wantOK(t, "Check", v.Check())
	for key, value := range v.Seek("") {
		m[key] = value
	}
	return m
}

// holds holds all that the tree tells, and what lies in the store, against what there must be.
func (w *world) holds(what string) {
	w.t.Helper()
	w.tells(what)
	if got := cells(w.t, w.s, marksRoot); !maps.Equal(got, w.marks) {
		w.t.Fatalf("%s: the marks are %x, want %x", what, got, w.marks)
	}
	if got := cells(w.t, w.s, sumsRoot); !maps.Equal(got, w.sums) {
		w.t.Fatalf("%s: the sums are %x, want %x", what, got, w.sums)
	}
	if w.closed && !maps.Equal(w.sums, w.objects.sums(w.width)) {
		w.t.Fatalf("%s: it should not be closed: the test is wrong", what)
	}
	for node := range 4369 {
		if key := keyOf(node); node < 20 || node > 4360 || w.sums[key] != "" {
			if sum, e := w.h.Sum(uint16(node)); sum != w.sums[key] || e != api.OK {
				w.t.Fatalf("%s: Sum(%d) is %x, %v, want %x", what, node, sum, e, w.sums[key])
			}
		}
	}
	w.hasEntries(what)
	w.hasSnapshot(what)
}

// tells holds the calls that only tell against what there must be.
func (w *world) tells(what string) {
	w.t.Helper()
	h := w.h
	if h.Width() != w.width || h.Valid() != w.valid || h.Closed() != w.closed || h.Building() != w.building || h.Dirty() != len(w.waits) {
		w.t.Fatalf("%s: Width %d, Valid %v, Closed %v, Building %v, Dirty %d; want %d, %v, %v, %v, %d", what,
			h.Width(), h.Valid(), h.Closed(), h.Building(), h.Dirty(), w.width, w.valid, w.closed, w.building, len(w.waits))
	}
	var l []int
	for n, ok := h.Next(-1); ok; n, ok = h.Next(n + 1) {
		l = append(l, n)
	}
	if !slices.Equal(l, slices.Sorted(maps.Keys(w.waits))) {
		w.t.Fatalf("%s: %v wait, want %v", what, l, slices.Sorted(maps.Keys(w.waits)))
	}
}

func (w *world) hasEntries(what string) {
	w.t.Helper()
	segments := map[int]bool{0: true, 2005: true, 4095: true}
	for key := range w.objects {
		segments[segmentOf(key)] = true
	}
	for n := range segments {
		if l, e := w.h.Entries(n); !slices.Equal(l, w.objects.entries(n, w.width)) || e != api.OK {
			w.t.Fatalf("%s: Entries(%d) are %x, %v, want %x", what, n, l, e, w.objects.entries(n, w.width))
		}
	}
}

func (w *world) hasSnapshot(what string) {
	w.t.Helper()
	snap, e := w.h.Snapshot()
	if !w.valid {
		if snap != nil || e != api.ErrInvalid {
			w.t.Fatalf("%s: Snapshot is %v, %v, want ErrInvalid", what, snap, e)
		}
		return
	}
	wantOK(w.t, what+": Snapshot", e)
	if told := unlike(snap, w.objects, w.width); told != "" {
		w.t.Fatalf("%s: the Snapshot of %s: %s", what, w.objects.told(), told)
	}
}

// unlike says where a tree is not that of objects.
func unlike(snap *tree.Tree, o objects, width int) string {
	if snap.Width() != width || snap.Len() != len(o) {
		return fmt.Sprintf("Width %d, Len %d", snap.Width(), snap.Len())
	}
	sums := o.sums(width)
	for node := range 4369 {
		if sum, e := snap.Sum(uint16(node)); sum != sums[keyOf(node)] || e != api.OK {
			return fmt.Sprintf("Sum(%d) is %x, want %x", node, sum, sums[keyOf(node)])
		}
	}
	for n, e := range snap.Each() {
		if n != segmentOf(e.Key) || e != o.entry(e.Key, width) {
			return fmt.Sprintf("the entry %x in %d", e, n)
		}
	}
	return ""
}

// like makes sure that nothing has been written since, and that a batch that is on goes on.
func (w *world) like(what string, lies []string, b *store.Batch) {
	w.t.Helper()
	if !slices.Equal(w.d.Durable(), lies) || w.d.Pending() > 0 {
		w.t.Errorf("%s has written something", what)
	}
	if _, e := b.Read(0); e == api.ErrDone {
		w.t.Errorf("%s has ended the batch that was on", what)
	}
}

// someEdits are changes of objects in a few segments, some of which are beside one another.
func (w *world) someEdits(r *rand.Rand, most int) []edit {
	var l []edit
	for range 1 + r.Intn(most) {
		n := r.Intn(8)
		switch r.Intn(4) {
		case 0:
			n = 2000 + 16*r.Intn(4)
		case 1:
			n = 4095 - r.Intn(300)
		}
		key := keys()[n][r.Intn(len(keys()[n]))]
		_, is := w.objects[key]
		l = append(l, edit{key: key, value: fmt.Sprint(r.Intn(1000)), gone: is && r.Intn(3) == 0})
	}
	return l
}

// leaf is the page of a table that has these cells alone, told as key, value, key, value ..
func leaf(texts ...string) string {
	n := api.Node{Leaf: true}
	for i := 0; i < len(texts); i += 2 {
		n.Cells = append(n.Cells, api.Cell{Key: texts[i], Value: texts[i+1]})
	}
	return body(n)
}

// branch is the page of a branch of two kids.
func branch(left uint32, key string, right uint32) string {
	return body(api.Node{Keys: []string{key}, Kids: []uint32{left, right}})
}

func body(n api.Node) string {
	s, e := node.Encode(n)
	if e != api.OK {
		panic(fmt.Sprintf("no node: %+v: %v", n, e))
	}
	return s
}

// lay makes a table by hand under a root: pages with these bodies, and the first of them is the root's. Each page goes in a batch of its own, for the journal may be small.
func lay(t *testing.T, s *store.Store, slot int, bodies func(first uint32) []string) {
	t.Helper()
	b := s.Begin()
	first, e := b.Alloc(78, "")
	wantOK(t, "Alloc", e)
	wantOK(t, "Commit", b.Commit())
	l := bodies(first)
	for i, text := range l[1:] {
		b := s.Begin()
		if n, e := b.Alloc(78, text); n != first+uint32(i)+1 || e != api.OK {
			t.Fatalf("Alloc: %d, %v", n, e)
		}
		wantOK(t, "Commit", b.Commit())
	}
	b = s.Begin()
	wantOK(t, "Write", b.Write(first, 78, l[0]))
	wantOK(t, "SetRoot", b.SetRoot(slot, first))
	wantOK(t, "Commit", b.Commit())
}

// cellOf is the cell of an object with one put.
func cellOf(t *testing.T, key string) (string, string) {
	t.Helper()
	state, _, e := dvv.Put(api.State{}, nil, 1, "x", false)
	wantOK(t, "dvv.Put", e)
	c, e := object.Pack(api.Object{Key: key, State: state})
	wantOK(t, "Pack", e)
	return c.Key, c.Value
}
