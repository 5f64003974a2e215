package btree_test

import (
	"math/rand"
	"slices"
	"testing"

	"concord/api"
	"concord/btree"
	"concord/store"
)

// pagesOf are nodes as pages.
func pagesOf(nodes []api.Node) []api.Page {
	var l []api.Page
	for _, n := range nodes {
		l = append(l, spoiltPage(n))
	}
	return l
}

// act is a Put or a Delete.
type act struct {
	put        bool
	key, value string
}

// drawnAct is mostly of a key that is there.
func drawnAct(r *rand.Rand, told []api.Cell, values int) act {
	a := act{put: r.Intn(2) == 0, key: drawnKeys(r, 1, 64)[0]}
	if len(told) > 0 && r.Intn(3) > 0 {
		a.key = told[r.Intn(len(told))].Key
	}
	a.key = a.key[:min(len(a.key), btree.MaxKey)]
	a.value = x(r.Intn(1 + min(values, api.MaxCell-len(a.key))))
	return a
}

func (a act) do(b *store.Batch, slot int) (bool, api.Errno) {
	if a.put {
		return false, btree.Put(b, slot, a.key, a.value)
	}
	return btree.Delete(b, slot, a.key)
}

// on are cells behind the act, rising.
func (a act) on(told []api.Cell) []api.Cell {
	m := map[string]string{}
	for _, c := range told {
		m[c.Key] = c.Value
	}
	delete(m, a.key)
	if a.put {
		m[a.key] = a.value
	}
	return sorted(m)
}

// within are the cells of a table behind the act in one of its leaves.
func (a act) within(g gone, leaf uint32) []api.Cell {
	isOther := func(c toldCell) bool { return c.leaf.page != leaf }
	from := max(0, slices.IndexFunc(g.told, func(c toldCell) bool { return !isOther(c) })) // a root may have no cells
	to := len(g.told)
	if n := slices.IndexFunc(g.told[from:], isOther); n >= 0 {
		to = from + n
	}
	l := g.cells()
	return slices.Concat(l[:from], a.on(l[from:to]), l[to:])
}

func rises(l []api.Cell) bool {
	for i := 1; i < len(l); i++ {
		if l[i-1].Key >= l[i].Key {
			return false
		}
	}
	return true
}

// P9.5: sound tables that others made, of nodes of any sizes, with keys of up to 320 bytes: they stay sound, hold what they should, and lose no page.
func TestTablesOfOthers(t *testing.T) {
	r := rand.New(rand.NewSource(95))
	for range 500 {
		longest, values := []int{9, 64, 320}[r.Intn(3)], []int{3, 300}[r.Intn(2)]
		nodes := drawnTable(r, 1+r.Intn(60), longest, values)
		b := laid(t, pagesOf(nodes)...)
		for range 40 {
			g := throughOf(b, b.Root(1), "")
			a := drawnAct(r, g.cells(), values)
			_, was, _ := getOf(b, b.Root(1), a.key)
			if got, e := a.do(b, 1); e != api.OK || got != (was && !a.put) {
				t.Fatalf("%+v: %v, %v", a, got, e)
			}
			h := throughOf(b, b.Root(1), "")
			if e := h.check(); e != api.OK || !slices.Equal(h.cells(), a.on(g.cells())) {
				t.Fatalf("%+v: %v, %d cells behind %d", a, e, len(h.told), len(g.told))
			}
			slices.Sort(h.visited)
			if used := inUse(b, 21+len(nodes)+60); !slices.Equal(used, h.visited) {
				t.Fatalf("%+v: the pages %v are in use, the table has %v", a, used, h.visited)
			}
		}
	}
}

// P9.6: tables that are not sound: what breaks on the way is the answer; what does not leaves the other cells as they were, or is ErrBroken; and all calls end.
func TestSpoiltTables(t *testing.T) {
	r := rand.New(rand.NewSource(96))
	seen := map[string]int{}
	for range 8000 {
		nodes := drawnTable(r, 1+r.Intn(40), []int{9, 64}[r.Intn(2)], 40)
		for range 1 + r.Intn(3) {
			spoil(r, nodes)
		}
		b := laid(t, pagesOf(nodes)...)
		for range 12 {
			g := throughOf(b, b.Root(1), "")
			what := changeSpoilt(t, b, g, drawnAct(r, g.cells(), 300))
			seen[what]++
			if what != "done" {
				break
			}
		}
	}
	for what, least := range map[string]int{"broken on the way": 500, "broken elsewhere": 500, "done": 5000} {
		if seen[what] < least {
			t.Errorf("only %d were %s", seen[what], what)
		}
	}
}

// changeSpoilt does an act in the table of the slot 1, which may be spoilt, and says what came of it.
func changeSpoilt(t *testing.T, b *store.Batch, g gone, a act) string {
	t.Helper()
	root := b.Root(1)
	_, was, broke := getOf(b, root, a.key)
	leaf := uint32(0)
	if root != 0 {
		leaf, _, _ = leafOf(b, root, a.key)
	}
	got, e := a.do(b, 1)
	if broke != api.OK {
		if got || e != broke {
			t.Fatalf("%+v, which breaks with %v: %v, %v", a, broke, got, e)
		}
		return "broken on the way"
	}
	if g.broke != api.OK {
		return "broken elsewhere"
	}
	want := a.within(g, leaf)
	if !rises(want) {
		return "broken by a key at its place"
	}
	if e == api.ErrBroken && g.check() != api.OK {
		return "given up"
	}
	h := throughOf(b, b.Root(1), "")
	if e != api.OK || got != (was && !a.put) || h.broke != api.OK || !slices.Equal(h.cells(), want) {
		t.Fatalf("%+v: %v, %v; %v, %v behind %v", a, got, e, h.broke, h.cells(), g.cells())
	}
	return "done"
}

// laidNodes is a batch with these nodes on the pages 1, 2 ..
func laidNodes(t *testing.T, nodes ...api.Node) *store.Batch {
	t.Helper()
	return laid(t, pagesOf(nodes)...)
}

// wantTable says what the table of the slot 1 should tell, and which pages are in use.
func wantTable(t *testing.T, what string, b *store.Batch, keys string, used ...uint32) {
	t.Helper()
	wantKeys(t, what, table(b, 1), "", keys)
	if got := inUse(b, 80); !slices.Equal(got, used) {
		t.Errorf("%s: the pages %v are in use, want %v", what, got, used)
	}
}

// P9.5: the chapter's table that is not sound: its cells go one by one.
func TestDeleteFromUnsound(t *testing.T) {
	b := laidNodes(t, branch(2, "m", 3), leaf("a", "1", "b", "2"), leaf("c", "3", "z", "4"))
	wantDelete(t, b, 1, "c", false, api.OK)
	wantDelete(t, b, 1, "a", true, api.OK)
	wantTable(t, "without a", b, "b c z", 1, 2, 3)
	wantDelete(t, b, 1, "b", true, api.OK)
	wantTable(t, "without b", b, "c z", 3)
	wantDelete(t, b, 1, "c", true, api.OK)
	wantDelete(t, b, 1, "z", true, api.OK)
	wantTable(t, "without cells", b, "")
}

// P9.5: neighbours that are no nodes, or of another kind, break nothing, for the way does not lead there.
func TestNeighboursOfOthers(t *testing.T) {
	for what, p := range map[string]api.Page{
		"no node": {Kind: 78, Body: "none"}, "another kind": {Kind: 7, Body: paged(leaf("p", "")).Body},
		"no cells": paged(leaf()), "no keys": paged(branch(9)), "a branch": paged(branch(8, "p", 9)),
		"keys that are below": paged(leaf("b", "", "c", "")),
	} {
		b := laid(t, paged(branch(2, "m", 3)), paged(leaf("a", "1", "d", "2")), p)
		wantPut(t, b, 1, "a", "", api.OK)
		wantDelete(t, b, 1, "d", true, api.OK)
		wantGet(t, what, table(b, 1), "a", "", true, api.OK)
		if got, e := b.Read(3); got.Body != p.Body || e != api.OK {
			t.Errorf("%s: changed to %v, %v", what, got, e)
		}
	}
	b := laidNodes(t, branch(2, "m", 30), leaf("a", "1"))
	wantPut(t, b, 1, "a", "", api.ErrFree) // a call of the batch is refused
}

// P9.5: leaves on unlike levels: a branch that would be left without keys leaves its place to its kid.
func TestUnlikeLevels(t *testing.T) {
	b := laidNodes(t, branch(2, "m", 3), branch(4, "c", 5), leaf("z", "4"), leaf("a", "1"), leaf("d", "2"))
	wantDelete(t, b, 1, "a", true, api.OK)
	wantTable(t, "in front", b, "d z", 1, 3, 5)
	b = laidNodes(t, branch(2, "m", 3), leaf("a", "4"), branch(4, "p", 5), leaf("n", "1"), leaf("q", "2"))
	wantDelete(t, b, 1, "q", true, api.OK)
	wantTable(t, "behind", b, "a n", 1, 2, 4)
}

// A leaf with keys that belong elsewhere, and whose half would stand at a wrong place: ErrBroken.
func TestSplitOfUnsound(t *testing.T) {
	full := leaf("c", x(300), "d", x(300), "e", x(300))
	b := laidNodes(t, branch(2, "m", 3), leaf("a", "1"), full)
	wantPut(t, b, 1, "n", x(300), api.ErrBroken)
	b = laidNodes(t, branch(2, "m", 3), leaf("a", "1"), full)
	wantPut(t, b, 1, "n", x(60), api.OK)
	wantTable(t, "what fits", b, "a c d e n", 1, 2, 3)
}

// A small leaf beside a great one with keys that belong further on: they cannot be cut anew, so it stays small.
func TestShareWithUnsound(t *testing.T) {
	b := laidNodes(t, branch(2, "m", 3, "p", 4), leaf("a", "1", "b", "2"), leaf("q", x(310), "r", x(310), "s", x(310)), leaf("z", ""))
	wantPut(t, b, 1, "b", x(66), api.OK)
	wantDelete(t, b, 1, "a", true, api.OK)
	wantTable(t, "a small leaf", b, "b q r s z", 1, 2, 3, 4)
}

// full is a table whose nodes on the way to the key aa can take nothing more, on so many levels; beside the way stands one leaf for all.
func full(levels int) []api.Page {
	var l []api.Page
	side := levels + 1
	for i := 2; i <= levels; i++ {
		up := string(rune('z' - i)) // the keys of each level are above those of the levels beneath it
		l = append(l, paged(branch(i, up+"a"+x(318), side, up+"b"+x(318), side, up+"c"+x(318), side, up+"d", side)))
	}
	return append(l, paged(leaf("aa", x(318), "ab", x(318), "ac", x(318))), paged(leaf("e", "")))
}

// The limits: a table gets no ninth level.
func TestNoNinthLevel(t *testing.T) {
	for levels := 1; levels <= 8; levels++ {
		b := laid(t, full(levels)...)
		want := api.OK
		if levels == 8 {
			want = api.ErrBroken
		}
		wantPut(t, b, 1, "ad", x(318), want)
		if levels < 8 {
			v := table(b, 1)
			for _, key := range []string{"aa", "ab", "ac", "ad"} {
				wantGet(t, "full nodes", v, key, x(318), true, api.OK)
			}
			if b.Size() != 1+len(full(levels))+levels+1 {
				t.Errorf("%d levels: %d pages", levels, b.Size())
			}
		}
	}
}

// P9.6: what the batch refuses while a page is given back, taken into use or made the root is the answer.
func TestBatchRefuses(t *testing.T) {
	for what, nodes := range map[string][]api.Node{
		"the right neighbour":  {branch(2, "m", 3), leaf("a", "", "b", ""), leaf("z", "")},
		"a leaf without cells": {branch(3, "m", 2), leaf("z", ""), leaf("a", "")},
		"a branch":             {branch(3, "m", 2), leaf("z", ""), branch(4, "b", 5), leaf("a", ""), leaf("b", "")},
	} {
		b := laidNodes(t, nodes...)
		wantOK(t, what, b.SetRoot(5, 3)) // a page that is a root is not given back
		wantDelete(t, b, 1, "a", false, api.ErrArg)
	}
	b := laidNodes(t, leaf("a", ""))
	wantOK(t, "SetRoot", b.SetRoot(5, 1))
	wantDelete(t, b, 1, "a", false, api.ErrArg)
	b = laidNodes(t, branch(2, "m", 2), leaf("a", ""))
	wantDelete(t, b, 1, "a", false, api.ErrFree) // the page that would be the root was given back
}
