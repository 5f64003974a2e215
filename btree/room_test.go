package btree_test

import (
	"math/rand"
	"slices"
	"testing"

	"concord/api"
	"concord/store"
)

// manner is how keys and values are drawn.
type manner struct {
	name  string
	cells int // how many cells the table grows to
	key   func(r *rand.Rand) string
	value func(r *rand.Rand, room int) int // how many bytes, of so many at most
}

func upTo(n int) func(r *rand.Rand, room int) int {
	return func(r *rand.Rand, room int) int { return r.Intn(1 + min(n, room)) }
}

// anyKey is one of some bytes, with a tail of one of two lengths, or none.
func anyKey(first, short, long int) func(r *rand.Rand) string {
	return func(r *rand.Rand) string {
		return string([]byte{byte(r.Intn(first)), byte(r.Intn(256))}) + x([]int{0, short, long}[r.Intn(3)])
	}
}

func manners() []manner {
	allRoom := func(r *rand.Rand, room int) int { return room }
	return []manner{
		{"small cells", 400, anyKey(6, 0, 0), upTo(1)},
		{"great cells", 90, anyKey(2, 0, 62), allRoom},
		{"long keys", 200, func(r *rand.Rand) string { return x(62) + number(r.Intn(600)) }, upTo(9)},
		{"unlike keys", 250, anyKey(3, 1, 62), upTo(3)},
		{"all sizes", 150, anyKey(2, 20, 62), upTo(320)},
		{"cells of a quarter", 70, anyKey(1, 0, 30), func(r *rand.Rand, room int) int { return min(room, 200+r.Intn(60)) }},
		{"small or great", 120, anyKey(2, 0, 62), func(r *rand.Rand, room int) int { return r.Intn(2) * room }},
		{"long keys, great cells", 90, func(r *rand.Rand) string { return x(62) + number(r.Intn(300)) }, allRoom},
	}
}

// P9.7, P9.8: tables in all manners grow, go on changing, and go down again; behind each Put and Delete they have the room that they may have, and hold what a map would.
func TestRoom(t *testing.T) {
	for i, m := range manners() {
		t.Run(m.name, func(t *testing.T) {
			t.Parallel()
			w := &worked{r: rand.New(rand.NewSource(int64(970 + i))), manner: m, store: fresh(t, 320), cells: map[string]string{}}
			for len(w.cells) < m.cells {
				w.step(t, w.r.Intn(5) > 0)
			}
			for range 2 * m.cells {
				w.step(t, w.r.Intn(2) == 0)
			}
			for len(w.cells) > 0 {
				w.step(t, w.r.Intn(7) == 0)
			}
			if s := w.store; s.Free() != s.Pages()-1 || s.Root(3) != 0 {
				t.Errorf("without cells: %d of %d pages are free, the root is %d", s.Free(), s.Pages(), s.Root(3))
			}
		})
	}
}

// worked is a table that is worked with: that of the slot 3, with what it should hold.
type worked struct {
	r      *rand.Rand
	manner manner
	store  *store.Store
	cells  map[string]string
}

// next is the next Put or Delete, mostly of a key that is there.
func (w *worked) next(put bool) act {
	a := act{put: put, key: w.manner.key(w.r)}
	if l := sorted(w.cells); len(l) > 0 && w.r.Intn(8) > 0 && (!put || w.r.Intn(2) == 0) {
		a.key = l[w.r.Intn(len(l))].Key
	}
	a.value = x(w.manner.value(w.r, api.MaxCell-len(a.key)))
	return a
}

// act does it in a batch of its own.
func (w *worked) act(t *testing.T, a act) *store.Batch {
	t.Helper()
	_, was := w.cells[a.key]
	b := w.store.Begin()
	if got, e := a.do(b, 3); e != api.OK || got != (was && !a.put) {
		t.Fatalf("%+v: %v, %v", a, got, e)
	}
	if delete(w.cells, a.key); a.put {
		w.cells[a.key] = a.value
	}
	return b
}

// step puts or deletes a key, and looks at all that there is.
func (w *worked) step(t *testing.T, put bool) {
	t.Helper()
	a := w.next(put)
	levels, used := levelsOf(w.store, w.store.Root(3)), inUse(w.store, w.store.Pages())
	b := w.act(t, a)
	after := throughOf(b, b.Root(3), "")
	wantRoom(t, b, after)
	if !slices.Equal(after.cells(), sorted(w.cells)) {
		t.Fatalf("%+v: other cells", a)
	}
	kept := inUse(b, w.store.Pages())
	changed := max(0, b.Size()-1) // all but the head
	for _, n := range used {
		if !slices.Contains(kept, n) {
			changed++
		}
	}
	if levels = min(levels, after.levels()); changed > 2*levels+1 {
		t.Fatalf("%+v: %d pages for %d levels", a, changed, levels)
	}
	slices.Sort(after.visited)
	if !slices.Equal(kept, after.visited) {
		t.Fatalf("%+v: the pages %v are in use, the table has %v", a, kept, after.visited)
	}
	wantOK(t, "Commit", b.Commit())
}

// P9.7: a table of more levels; all of it is looked at now and then.
func TestTall(t *testing.T) {
	t.Parallel()
	long := manner{key: func(r *rand.Rand) string { return x(61) + string([]byte{byte(r.Intn(9)), byte(r.Intn(256)), 0}) }, value: func(r *rand.Rand, room int) int { return room - r.Intn(99) }}
	w := &worked{r: rand.New(rand.NewSource(97)), manner: long, store: fresh(t, 3000), cells: map[string]string{}}
	most := 0
	for i := 0; i < 5000 || len(w.cells) > 0; i++ {
		levels, free := levelsOf(w.store, w.store.Root(3)), w.store.Free()
		b := w.act(t, w.next(i < 2200 || i < 3000 && i%2 == 0 || i%40 == 0))
		size := b.Size()
		wantOK(t, "Commit", b.Commit())
		if changed := max(0, size-1) + max(0, w.store.Free()-free); changed > 2*levels+1 {
			t.Fatalf("%d pages for %d levels", changed, levels)
		}
		if most = max(most, levels); i%300 == 299 {
			b = w.store.Begin()
			g := throughOf(b, b.Root(3), "")
			wantRoom(t, b, g)
			if w.store.Free() != w.store.Pages()-1-len(g.visited) || !slices.Equal(g.cells(), sorted(w.cells)) {
				t.Fatalf("%d pages, %d free, of %d; %d cells, want %d", len(g.visited), w.store.Free(), w.store.Pages(), len(g.told), len(w.cells))
			}
		}
	}
	if most < 4 || w.store.Free() != w.store.Pages()-1 {
		t.Errorf("%d levels, %d of %d pages are free at the end", most, w.store.Free(), w.store.Pages())
	}
}

// wantRoom says whether a table is as P9.7 promises it.
func wantRoom(t *testing.T, b *store.Batch, g gone) {
	t.Helper()
	if e := g.check(); e != api.OK {
		t.Fatalf("it is not sound: %v", e)
	}
	cells, pages := len(g.told), len(g.visited)
	if (cells == 0) != (b.Root(3) == 0) || pages > 0 && pages >= 2*cells {
		t.Fatalf("%d pages, %d cells, the root %d", pages, cells, b.Root(3))
	}
	for _, n := range g.visited {
		if p, e := b.Read(n); e != api.OK || n != b.Root(3) && len(p.Body) < 249 {
			t.Fatalf("a node of %d bytes: %v", len(p.Body), e)
		}
	}
	least, levels := 2, 2
	for least <= cells {
		least, levels = 5*least, levels+1
	}
	if cells > 0 && g.levels() >= levels {
		t.Fatalf("%d cells: %d levels", cells, g.levels())
	}
}
