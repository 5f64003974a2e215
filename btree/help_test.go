package btree_test

import (
	"fmt"
	"maps"
	"slices"
	"strings"
	"testing"

	"concord/api"
	"concord/btree"
	"concord/disk"
	"concord/node"
	"concord/store"
)

func x(n int) string { return strings.Repeat("x", n) }

// leaf is a leaf of cells that are told as key, value, key, value ..
func leaf(texts ...string) api.Node {
	n := api.Node{Leaf: true}
	for i := 0; i < len(texts); i += 2 {
		n.Cells = append(n.Cells, api.Cell{Key: texts[i], Value: texts[i+1]})
	}
	return n
}

// branch is a branch that is told as kid, key, kid, key .. kid.
func branch(items ...any) api.Node {
	n := api.Node{}
	for _, item := range items {
		switch v := item.(type) {
		case int:
			n.Kids = append(n.Kids, uint32(v))
		case string:
			n.Keys = append(n.Keys, v)
		}
	}
	return n
}

// paged is a page that holds a node.
func paged(n api.Node) api.Page {
	body, e := node.Encode(n)
	if e != api.OK {
		panic(fmt.Sprintf("no node: %+v: %v", n, e))
	}
	return api.Page{Kind: 78, Body: body}
}

// shelf is pages that lie there as they were laid; it notes which ones are read.
type shelf struct {
	pages   map[uint32]api.Page
	refused map[uint32]api.Errno
	asked   []uint32
}

// shelved are nodes on the pages 1, 2 ..
func shelved(nodes ...api.Node) *shelf {
	s := &shelf{pages: map[uint32]api.Page{}, refused: map[uint32]api.Errno{}}
	for i, n := range nodes {
		s.pages[uint32(i+1)] = paged(n)
	}
	return s
}

func (s *shelf) Read(n uint32) (api.Page, api.Errno) {
	s.asked = append(s.asked, n)
	if e, ok := s.refused[n]; ok {
		return paged(leaf("what a refusal", "tells beside it")), e
	}
	p, ok := s.pages[n]
	if !ok {
		return api.Page{}, api.ErrFree
	}
	return p, api.OK
}

// cells are what Seek tells, in order.
func cells(v *btree.View, from string) []api.Cell {
	var l []api.Cell
	for key, value := range v.Seek(from) {
		l = append(l, api.Cell{Key: key, Value: value})
	}
	return l
}

// keys are what Seek tells, without the values.
func keys(v *btree.View, from string) string {
	var l []string
	for key := range v.Seek(from) {
		l = append(l, key)
	}
	return strings.Join(l, " ")
}

func wantGet(t *testing.T, what string, v *btree.View, key, value string, found bool, e api.Errno) {
	t.Helper()
	if got, has, f := v.Get(key); got != value || has != found || f != e {
		t.Errorf("%s: Get(%q) is %q, %v, %v; want %q, %v, %v", what, key, got, has, f, value, found, e)
	}
}

func wantCount(t *testing.T, what string, v *btree.View, count int, e api.Errno) {
	t.Helper()
	if got, f := v.Count(); got != count || f != e {
		t.Errorf("%s: Count is %d, %v; want %d, %v", what, got, f, count, e)
	}
}

func wantCheck(t *testing.T, what string, v *btree.View, e api.Errno) {
	t.Helper()
	if f := v.Check(); f != e {
		t.Errorf("%s: Check is %v, want %v", what, f, e)
	}
}

func wantKeys(t *testing.T, what string, v *btree.View, from, want string) {
	t.Helper()
	if got := keys(v, from); got != want {
		t.Errorf("%s: Seek(%q) tells %s, want %s", what, from, got, want)
	}
}

func wantPut(t *testing.T, b *store.Batch, slot int, key, value string, e api.Errno) {
	t.Helper()
	if f := btree.Put(b, slot, key, value); f != e {
		t.Fatalf("Put(%d, %q, %d bytes) is %v, want %v", slot, key, len(value), f, e)
	}
}

func wantDelete(t *testing.T, b *store.Batch, slot int, key string, was bool, e api.Errno) {
	t.Helper()
	if got, f := btree.Delete(b, slot, key); got != was || f != e {
		t.Fatalf("Delete(%d, %q) is %v, %v; want %v, %v", slot, key, got, f, was, e)
	}
}

func wantOK(t *testing.T, what string, e api.Errno) {
	t.Helper()
	if e != api.OK {
		t.Fatalf("%s: %v", what, e)
	}
}

func opened(t *testing.T, d disk.Device) *store.Store {
	t.Helper()
	s, e := store.Open(d, 20)
	wantOK(t, "Open", e)
	return s
}

// fresh is a store on a new disk, of which 20 pages are the journal's.
func fresh(t *testing.T, pages int) *store.Store {
	t.Helper()
	d, e := disk.New(pages)
	wantOK(t, "New", e)
	return opened(t, d)
}

// laid is a batch that has these on the pages 1, 2 .., of which the page 1 is the root of the slot 1; some further pages are free.
func laid(t *testing.T, pages ...api.Page) *store.Batch {
	t.Helper()
	b := fresh(t, 21+len(pages)+60).Begin()
	for i, p := range pages {
		if at, e := b.Alloc(p.Kind, p.Body); at != uint32(i+1) || e != api.OK {
			t.Fatalf("Alloc: %d, %v", at, e)
		}
	}
	wantOK(t, "SetRoot", b.SetRoot(1, 1))
	return b
}

// inUse are the pages that a store or a batch has in use.
func inUse(r rooted, pages int) []uint32 {
	var l []uint32
	for n := range uint32(pages) {
		if _, e := r.Read(n); e == api.OK {
			l = append(l, n)
		}
	}
	return l
}

// rooted is a store or a batch.
type rooted interface {
	btree.Pages
	Root(i int) uint32
}

// table is the table of a slot.
func table(r rooted, slot int) *btree.View { return btree.Look(r, r.Root(slot)) }

// sorted are a map's cells as a table tells them.
func sorted(m map[string]string) []api.Cell {
	var l []api.Cell
	for _, key := range slices.Sorted(maps.Keys(m)) {
		l = append(l, api.Cell{Key: key, Value: m[key]})
	}
	return l
}

// unlike says at what a table is not as a map.
func unlike(v *btree.View, m map[string]string) string {
	want := sorted(m)
	if got := cells(v, ""); !slices.Equal(got, want) {
		return fmt.Sprintf("Seek tells %d cells, or others, want %d", len(got), len(want))
	}
	if n, e := v.Count(); n != len(m) || e != api.OK {
		return fmt.Sprintf("Count is %d, %v, want %d", n, e, len(m))
	}
	if e := v.Check(); e != api.OK {
		return fmt.Sprintf("Check is %v", e)
	}
	for _, c := range want {
		if value, found, e := v.Get(c.Key); value != c.Value || !found || e != api.OK {
			return fmt.Sprintf("Get(%q) is %q, %v, %v, want %q", c.Key, value, found, e, c.Value)
		}
	}
	return ""
}

func wantLike(t *testing.T, what string, v *btree.View, m map[string]string) {
	t.Helper()
	if told := unlike(v, m); told != "" {
		t.Fatalf("%s: %s", what, told)
	}
}

// spy is a device that refuses all reads from one of them on, if that is not below 0.
type spy struct {
	disk.Device
	reads, refuse int
}

func (s *spy) Read(n int) ([]byte, api.Errno) {
	s.reads++
	if s.refuse >= 0 && s.reads > s.refuse {
		return nil, api.ErrPower
	}
	return s.Device.Read(n)
}
