package btree_test

import (
	"maps"
	"math/rand"
	"slices"
	"strings"
	"testing"

	"concord/api"
	"concord/btree"
	"concord/node"
)

// drawnKeys are distinct keys, rising: short ones, or some of up to the longest that a node takes.
func drawnKeys(r *rand.Rand, count, longest int) []string {
	drawn := map[string]int{}
	for range count {
		key := string([]byte{byte('a' + r.Intn(6)), byte('a' + r.Intn(6)), byte('a' + r.Intn(6))})[:1+r.Intn(3)]
		if r.Intn(2) == 0 {
			key += x(r.Intn(longest - 2))
		}
		drawn[key] = 0
	}
	return slices.Sorted(maps.Keys(drawn))
}

// sub is a part of a drawn table: its node's place in the list, its least key and its greatest.
type sub struct {
	at          int
	first, last string
}

// drawnTable are the nodes of a sound table, the root first, with the kids as the pages 1, 2 ..; they are small, or as they come.
func drawnTable(r *rand.Rand, count, longest, values int) []api.Node {
	var nodes []api.Node
	var level []sub
	for rest := drawnKeys(r, count, longest); len(rest) > 0; {
		n := api.Node{Leaf: true}
		for range 1 + r.Intn(4) {
			c := api.Cell{Key: rest[0]}
			c.Value = x(r.Intn(1 + min(values, api.MaxCell-len(c.Key))))
			n.Cells = append(n.Cells, c)
			if rest = rest[1:]; len(rest) == 0 || node.Size(n) > 600 {
				break
			}
		}
		level = append(level, sub{len(nodes), n.Cells[0].Key, n.Cells[len(n.Cells)-1].Key})
		nodes = append(nodes, n)
	}
	for len(level) > 1 {
		var upper []sub
		for len(level) > 0 {
			take := 2 + r.Intn(2)
			if len(level) <= take+1 {
				take = len(level) // none is left alone
			}
			upper = append(upper, sub{len(nodes), level[0].first, level[take-1].last})
			nodes = append(nodes, branchOver(r, level[:take]))
			level = level[take:]
		}
		level = upper
	}
	slices.Reverse(nodes)
	for _, n := range nodes {
		for i := range n.Kids {
			n.Kids[i] = uint32(len(nodes)) - n.Kids[i]
		}
	}
	return nodes
}

// branchOver is the branch over some parts; its kids are their places.
func branchOver(r *rand.Rand, parts []sub) api.Node {
	n := api.Node{Kids: []uint32{uint32(parts[0].at)}}
	for i, p := range parts[1:] {
		key := p.first
		if ahead := parts[i].last + "\x00"; r.Intn(3) == 0 && len(ahead) <= api.MaxCell {
			key = ahead // the least one that may stand there
		}
		n.Keys = append(n.Keys, key)
		n.Kids = append(n.Kids, uint32(p.at))
	}
	return n
}

// spoil turns something in a table, so that it mostly is not sound any more, and now and then no node is left on a page.
func spoil(r *rand.Rand, nodes []api.Node) {
	n := &nodes[r.Intn(len(nodes))]
	key := drawnKeys(r, 1, 9)[0]
	switch what := r.Intn(7); {
	case what == 0:
		*n = leaf(key, "")
	case what == 1:
		*n = leaf()
	case what == 2:
		*n = branch(1 + r.Intn(len(nodes)))
	case len(n.Cells) > 0:
		n.Cells[r.Intn(len(n.Cells))].Key = key
		slices.SortFunc(n.Cells, func(a, b api.Cell) int { return strings.Compare(a.Key, b.Key) })
	case len(n.Keys) > 0 && what < 5:
		n.Keys[r.Intn(len(n.Keys))] = key
		slices.Sort(n.Keys)
	case len(n.Keys) > 0:
		n.Kids[r.Intn(len(n.Kids))] = uint32(1 + r.Intn(len(nodes)+1))
	}
}

// spoiltPage is the page of a node, be it none.
func spoiltPage(n api.Node) api.Page {
	if _, e := node.Encode(n); e != api.OK {
		return api.Page{Kind: 78, Body: "none"}
	}
	return paged(n)
}

// drawnShelf is a drawn table, in which some things are turned.
func drawnShelf(r *rand.Rand) *shelf {
	nodes := drawnTable(r, r.Intn(40), []int{9, 320}[r.Intn(2)], 3)
	s := shelved()
	for range []int{0, 1, 1, 3}[r.Intn(4)] {
		if len(nodes) > 0 {
			spoil(r, nodes)
		}
	}
	for i, n := range nodes {
		s.pages[uint32(i+1)] = spoiltPage(n)
		switch r.Intn(300) {
		case 0:
			s.pages[uint32(i+1)] = api.Page{Kind: uint8(r.Intn(256)), Body: paged(leaf("a", "")).Body}
		case 1:
			s.refused[uint32(i+1)] = api.Errno(1 + r.Intn(90))
		}
	}
	return s
}

// asked are texts to be asked for in drawn tables.
func asked(r *rand.Rand) []string {
	l := drawnKeys(r, 9, 12)
	return append(l, "", "\x00", "a", "cc", "d", "e\x00", "fff"+x(320))
}

// P9.2 to P9.4: drawn tables, sound and not, held against an oracle.
func TestDrawnViews(t *testing.T) {
	r := rand.New(rand.NewSource(94))
	seen := map[string]int{}
	for range 6000 {
		s := drawnShelf(r)
		root := uint32(min(1, len(s.pages)))
		v := btree.Look(s, root)
		g := throughOf(s, root, "")
		seen[kindOf(g)]++
		if g.broke != api.OK {
			wantCount(t, "drawn", v, 0, g.broke)
		} else {
			wantCount(t, "drawn", v, len(g.told), api.OK)
		}
		wantCheck(t, "drawn", v, g.check())
		for _, text := range asked(r) {
			value, found, e := getOf(s, root, text)
			wantGet(t, "drawn", v, text, value, found, e)
			want := throughOf(s, root, text).cells()
			if got := cells(v, text); !slices.Equal(got, want) {
				t.Errorf("drawn: Seek(%q): %v, want %v", text, got, want)
			}
		}
		for _, c := range g.told {
			value, found, e := getOf(s, root, c.Key)
			wantGet(t, "drawn", v, c.Key, value, found, e)
		}
		if t.Failed() {
			t.Fatalf("the pages: %v, refused: %v", s.pages, s.refused)
		}
	}
	for _, kind := range []string{"sound", "unsound", "broken", "refused"} {
		if seen[kind] < 200 {
			t.Errorf("only %d tables were %s", seen[kind], kind)
		}
	}
}

func kindOf(g gone) string {
	switch {
	case g.broke == api.ErrBroken:
		return "broken"
	case g.broke != api.OK:
		return "refused"
	case g.check() != api.OK:
		return "unsound"
	}
	return "sound"
}
