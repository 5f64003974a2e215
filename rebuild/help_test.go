package rebuild_test

import (
	"fmt"
	"maps"
	"math/rand"
	"slices"
	"strings"
	"sync"
	"testing"
	"testing/synctest"

	"concord/api"
	"concord/btree"
	"concord/cancel"
	"concord/disk"
	"concord/dvv"
	"concord/hashtree"
	"concord/node"
	"concord/object"
	"concord/rebuild"
	"concord/store"
)

const (
	objectsRoot = 0
	sumsRoot    = 1
)

// keys are some by their segments: fifteen a segment, more or less.
var keys = sync.OnceValue(func() *[4096][]string {
	var all [4096][]string
	for i := range 60000 {
		key := fmt.Sprintf("%04x", i)
		all[segmentOf(key)] = append(all[segmentOf(key)], key)
	}
	return &all
})

// keyIn is a key of a segment.
func keyIn(segment int) string { return keys()[segment][0] }

func want(t *testing.T, what string, got, want api.Errno) {
	t.Helper()
	if got != want {
		t.Errorf("%s: %v, want %v", what, got, want)
	}
}

func wantOK(t *testing.T, what string, e api.Errno) {
	t.Helper()
	if e != api.OK {
		t.Fatalf("%s: %v", what, e)
	}
}

// cancelled is a token that is cancelled already.
func cancelled(why api.Errno) *cancel.Token {
	k := cancel.New()
	k.Cancel(why)
	return k
}

// apart runs a test that fails, if a goroutine is left behind at its end.
func apart(t *testing.T, f func(t *testing.T)) {
	t.Helper()
	synctest.Test(t, f)
}

// heard is a device that tells of what it is asked, ahead of doing it.
type heard struct {
	disk.Device
	read, write func(n int)
}

func (h *heard) Read(n int) ([]byte, api.Errno) {
	if h.read != nil {
		h.read(n)
	}
	return h.Device.Read(n)
}

func (h *heard) Write(n int, b []byte) api.Errno {
	if h.write != nil {
		h.write(n)
	}
	return h.Device.Write(n, b)
}

// world is a tree over the objects of a store.
type world struct {
	t              *testing.T
	d              *disk.Disk
	ear            *heard
	s              *store.Store
	h              *hashtree.Tree
	journal, width int
}

// fresh is a tree over a new disk.
func fresh(t *testing.T, pages, journal, width int) *world {
	t.Helper()
	d, e := disk.New(pages)
	wantOK(t, "disk.New", e)
	w := &world{t: t, d: d, ear: &heard{Device: d}, journal: journal, width: width}
	w.again()
	return w
}

// plain is a tree as in the chapter's examples.
func plain(t *testing.T) *world {
	t.Helper()
	return fresh(t, 200, api.Journal, 4)
}

// again opens store and tree anew, as they lie.
func (w *world) again() {
	w.t.Helper()
	s, e := store.Open(w.ear, w.journal)
	wantOK(w.t, "store.Open", e)
	h, e := hashtree.Open(s, w.width)
	wantOK(w.t, "hashtree.Open", e)
	w.s, w.h = s, h
}

// change puts a value at a key, or takes its object away, in a batch.
func (w *world) change(key, value string, gone bool) api.Errno {
	w.t.Helper()
	n := segmentOf(key)
	b := w.s.Begin()
	if e := w.h.Touch(b, n); e != api.OK {
		return e
	}
	if e := w.lay(b, key, value, gone); e != api.OK {
		return e
	}
	if e := b.Commit(); e != api.OK {
		return e
	}
	return w.h.Touched(n)
}

func (w *world) lay(b *store.Batch, key, value string, gone bool) api.Errno {
	if gone {
		_, e := btree.Delete(b, objectsRoot, two(segmentOf(key))+key)
		return e
	}
	o := w.objects()[key]
	state, _, e := dvv.Put(o.State, o.State.Seen, 1, value, false)
	if e != api.OK {
		return e
	}
	c, e := object.Pack(api.Object{Key: key, State: state})
	if e != api.OK {
		return e
	}
	return btree.Put(b, objectsRoot, c.Key, c.Value)
}

// put puts a value at some keys.
func (w *world) put(value string, keys ...string) {
	w.t.Helper()
	for _, key := range keys {
		wantOK(w.t, "put", w.change(key, value, false))
	}
}

// unbelieved is a world in which these segments have an object each, and whose tree is not valid; it has no sums.
func unbelieved(t *testing.T, segments ...int) *world {
	t.Helper()
	w := plain(t)
	for _, n := range segments {
		w.put("x", keyIn(n))
	}
	w.again()
	if w.h.Valid() || w.h.Building() {
		t.Fatal("valid: the test is wrong")
	}
	return w
}

// strange writes a cell into a table by a hand that is not the tree's, or takes one out.
func (w *world) strange(slot int, key, value string, gone bool) {
	w.t.Helper()
	b := w.s.Begin()
	var e api.Errno
	if gone {
		_, e = btree.Delete(b, slot, key)
	} else {
		e = btree.Put(b, slot, key, value)
	}
	wantOK(w.t, "a strange hand", e)
	wantOK(w.t, "Commit", b.Commit())
}

// strangeSums writes cells that the tree has not put there, and takes some of its own out.
func (w *world) strangeSums(r *rand.Rand) {
	w.t.Helper()
	for _, key := range slices.Sorted(maps.Keys(w.must())) {
		switch r.Intn(5) {
		case 0:
			w.strange(sumsRoot, key, "", true)
		case 1:
			w.strange(sumsRoot, key, strings.Repeat("s", r.Intn(40)), false)
		}
	}
	for _, node := range []int{0, 1, 16, 17, 99, 272, 273, 2005, 2278, 4000, 4368} {
		switch r.Intn(4) {
		case 0:
			w.strange(sumsRoot, keyOf(node), "", false)
		case 1:
			w.strange(sumsRoot, keyOf(node), strings.Repeat("s", w.width), false)
		}
	}
	for _, key := range []string{"\x00", "\x03\x00", sumKey(0, 1), sumKey(3, 4096), sumKey(4, 0), "zz"} {
		if r.Intn(3) == 0 {
			w.strange(sumsRoot, key, "strange", false)
		}
	}
}

// handmade lays pages down under a root.
func (w *world) handmade(slot int, bodies func(first uint32) []string) {
	w.t.Helper()
	b := w.s.Begin()
	first, e := b.Alloc(78, "")
	wantOK(w.t, "Alloc", e)
	l := bodies(first)
	for _, body := range l[1:] {
		_, e := b.Alloc(78, body)
		wantOK(w.t, "Alloc", e)
	}
	wantOK(w.t, "Write", b.Write(first, 78, l[0]))
	wantOK(w.t, "SetRoot", b.SetRoot(slot, first))
	wantOK(w.t, "Commit", b.Commit())
}

// leaf is the page of a table that has these cells, told as key, value, key, value ..
func leaf(texts ...string) string {
	n := api.Node{Leaf: true}
	for i := 0; i < len(texts); i += 2 {
		n.Cells = append(n.Cells, api.Cell{Key: texts[i], Value: texts[i+1]})
	}
	return body(n)
}

// branch is the page of a branch of two kids.
func branch(left uint32, key string, right uint32) string {
	return body(api.Node{Keys: []string{key}, Kids: []uint32{left, right}})
}

func body(n api.Node) string {
	s, e := node.Encode(n)
	if e != api.OK {
		panic(fmt.Sprintf("no node: %+v: %v", n, e))
	}
	return s
}

// cells are those of a table, by their keys.
func (w *world) cells(slot int) map[string]string {
	m := map[string]string{}
	for key, value := range btree.Look(w.s, w.s.Root(slot)).Seek("") {
		m[key] = value
	}
	return m
}

// objects are those that lie in the store, by their keys.
func (w *world) objects() map[string]api.Object {
	w.t.Helper()
	m := map[string]api.Object{}
	for key, value := range w.cells(objectsRoot) {
		o, e := object.Unpack(api.Cell{Key: key, Value: value})
		wantOK(w.t, "Unpack", e)
		m[o.Key] = o
	}
	return m
}

// must are the sums that there must be, by the keys of their cells.
func (w *world) must() map[string]string {
	w.t.Helper()
	var l []api.Entry
	o := w.objects()
	for _, key := range slices.Sorted(maps.Keys(o)) {
		entry, e := object.Entry(o[key], w.width)
		wantOK(w.t, "Entry", e)
		l = append(l, entry)
	}
	return sums(l, w.width)
}

// made holds a tree that was made anew against its objects.
func (w *world) made(what string) {
	w.t.Helper()
	h := w.h
	if !h.Closed() || !h.Valid() || h.Building() || h.Dirty() != 0 {
		w.t.Fatalf("%s: Closed %v, Valid %v, Building %v, Dirty %d", what, h.Closed(), h.Valid(), h.Building(), h.Dirty())
	}
	if got, must := w.cells(sumsRoot), w.must(); !maps.Equal(got, must) {
		w.t.Fatalf("%s: the sums are %x, want %x", what, got, must)
	}
	l, e := rebuild.Audit(nil, h, 3)
	if len(l) != 0 || e != api.OK {
		w.t.Fatalf("%s: Audit: %v, %v", what, l, e)
	}
}

// job is a new one.
func (w *world) job() *rebuild.Job {
	w.t.Helper()
	j, e := rebuild.New(w.h)
	if j == nil || e != api.OK {
		w.t.Fatalf("New: %v, %v", j, e)
	}
	return j
}

// left holds the next segment of a job, as the job and its tree tell it.
func (w *world) left(what string, j *rebuild.Job, n int) {
	w.t.Helper()
	if j.Left() != n || w.h.Dirty() != n || !w.h.Building() || w.h.Valid() {
		w.t.Errorf("%s: Left %d, Dirty %d, Building %v, Valid %v; %d must be left", what, j.Left(), w.h.Dirty(), w.h.Building(), w.h.Valid(), n)
	}
	if next, ok := w.h.Next(0); n > 0 && (next != 4096-n || !ok) {
		w.t.Errorf("%s: %d waits, want %d", what, next, 4096-n)
	}
}

// over holds that a job is.
func over(t *testing.T, what string, j *rebuild.Job) {
	t.Helper()
	if j.Left() != 0 {
		t.Errorf("%s: Left %d, and it is over", what, j.Left())
	}
	for _, n := range []int{1, 4096, 0, -1, 4097} {
		wantStep(t, what+", over", j, cancelled(api.ErrTries), n, 0, api.ErrDone)
		wantStep(t, what+", over", j, nil, n, 0, api.ErrDone)
	}
}

func wantStep(t *testing.T, what string, j *rebuild.Job, k *cancel.Token, segments, left int, e api.Errno) {
	t.Helper()
	if n, got := j.Step(k, segments); n != left || got != e {
		t.Errorf("%s: Step(%d): %d, %v; want %d, %v", what, segments, n, got, left, e)
	}
}
