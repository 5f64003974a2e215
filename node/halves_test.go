package node_test

import (
	"math/rand"
	"testing"

	"concord/api"
	"concord/node"
)

func wantHalves(t *testing.T, what string, n, l api.Node, key string, r api.Node) {
	t.Helper()
	gotL, gotKey, gotR, e := node.Split(n)
	if e != api.OK || !same(gotL, l) || gotKey != key || !same(gotR, r) {
		t.Errorf("%s: Split: %+v, %q, %+v, %v, want %+v, %q, %+v", what, gotL, gotKey, gotR, e, l, key, r)
	}
}

func wantUnsplit(t *testing.T, what string, n api.Node, want api.Errno) {
	t.Helper()
	l, key, r, e := node.Split(n)
	if e != want || !isNothing(l) || key != "" || !isNothing(r) {
		t.Errorf("%s: Split: %+v, %q, %+v, %v, want %v", what, l, key, r, e, want)
	}
}

// P8.6: a leaf is cut where the greater one of the two sizes is least.
func TestSplitLeaf(t *testing.T) {
	wantHalves(t, "two", leaf("a", "1", "c", "3"), leaf("a", "1"), "c", leaf("c", "3"))
	wantHalves(t, "three alike: the first of two cuts", leaf("a", "", "b", "", "c", ""), leaf("a", ""), "b", leaf("b", "", "c", ""))
	wantHalves(t, "four alike", leaf("a", "", "b", "", "c", "", "d", ""), leaf("a", "", "b", ""), "c", leaf("c", "", "d", ""))
	wantHalves(t, "the first is great", leaf("a", x(90), "b", "", "c", ""), leaf("a", x(90)), "b", leaf("b", "", "c", ""))
	wantHalves(t, "the last is great", leaf("a", "", "b", "", "c", x(90)), leaf("a", "", "b", ""), "c", leaf("c", x(90)))
	wantHalves(t, "two, the first of them great", leaf("a", x(300), "b", ""), leaf("a", x(300)), "b", leaf("b", ""))
	wantHalves(t, "two, the last of them great", leaf("a", "", "b", x(300)), leaf("a", ""), "b", leaf("b", x(300)))
	wantHalves(t, "a byte less on the right", leaf("a", "", "b", "1", "c", ""), leaf("a", ""), "b", leaf("b", "1", "c", ""))
	wantHalves(t, "a byte less on the left", leaf("a", "", "b", "", "c", "1"), leaf("a", "", "b", ""), "c", leaf("c", "1"))
	wantHalves(t, "a length of two bytes", leaf("a", x(127), "b", "1", "c", x(126)), leaf("a", x(127)), "b", leaf("b", "1", "c", x(126)))
}

// P8.6: a branch is cut likewise; the key at the place goes up.
func TestSplitBranch(t *testing.T) {
	wantHalves(t, "one key", branch(7, "m"), branch(7), "m", branch(8))
	wantHalves(t, "two: the first of two cuts", branch(7, "m", "t"), branch(7), "m", branch(8, "t"))
	wantHalves(t, "three", branch(7, "c", "m", "t"), branch(7, "c"), "m", branch(9, "t"))
	wantHalves(t, "four: the first of two cuts", branch(7, "c", "g", "m", "t"), branch(7, "c"), "g", branch(9, "m", "t"))
	wantHalves(t, "the first is great", branch(7, "c"+x(90), "m", "t"), branch(7), "c"+x(90), branch(8, "m", "t"))
	wantHalves(t, "the last is great", branch(7, "c", "m", "t"+x(90)), branch(7, "c", "m"), "t"+x(90), branch(10))
	wantHalves(t, "the middle is great", branch(7, "c", "m"+x(90), "t"), branch(7, "c"), "m"+x(90), branch(9, "t"))
	wantHalves(t, "two, the last great", branch(7, "m", "t"+x(90)), branch(7, "m"), "t"+x(90), branch(9))
}

// P8.6: nothing to cut is ErrNode; Check's errors stand ahead of it.
func TestSplitRefused(t *testing.T) {
	wantUnsplit(t, "no cell", leaf(), api.ErrNode)
	wantUnsplit(t, "one cell", leaf("a", "1"), api.ErrNode)
	wantUnsplit(t, "one great cell", leaf("a", x(319)), api.ErrNode)
	wantUnsplit(t, "no key", branch(7), api.ErrNode)
	for want, nodes := range unfit(t) {
		for _, n := range nodes {
			wantUnsplit(t, "what may not be", n, want)
		}
	}
	wantUnsplit(t, "one cell too big", leaf("a", x(320)), api.ErrBig)
}

// P8.6: drawn nodes, and some of each size that may be, held against the oracle.
func TestDrawnSplits(t *testing.T) {
	r := rand.New(rand.NewSource(87))
	for range 20000 {
		wantSplitAsOracle(t, drawnNode(r))
	}
	for size := 30; size <= 1992; size += 9 {
		wantSplitAsOracle(t, leafOf(t, size))
		wantSplitAsOracle(t, branchOf(t, size))
	}
	for range 300 { // many items, all of nearly one size: several cuts are as good
		l, b := leaf(), branch(1)
		for i := range r.Intn(60) {
			l.Cells = append(l.Cells, api.Cell{Key: number(i), Value: x(r.Intn(2))})
			b = branch(1, append(b.Keys, number(i)+x(r.Intn(2)))...)
		}
		wantSplitAsOracle(t, l)
		wantSplitAsOracle(t, b)
	}
}

func wantSplitAsOracle(t *testing.T, n api.Node) {
	t.Helper()
	l, key, r, e := wantSplit(n)
	if e != api.OK {
		wantUnsplit(t, "as the oracle says", n, e)
		return
	}
	wantHalves(t, "as the oracle says", n, l, key, r)
}

// P8.6, R3: a half that grows does not grow into the other one.
func TestHalvesGrow(t *testing.T) {
	for _, n := range []api.Node{leaf("a", "1", "c", "3", "e", "5"), branch(7, "c", "m", "t")} {
		l, _, r, _ := node.Split(roomy(n))
		left, right := copied(l), copied(r)
		l.Cells = append(l.Cells, api.Cell{Key: "grown"})
		l.Keys = append(l.Keys, "grown")
		l.Kids = append(l.Kids, 815)
		if !same(r, right) {
			t.Errorf("the left half has grown into the right one: %+v, want %+v", r, right)
		}
		r.Cells = append(r.Cells, api.Cell{Key: "grown"})
		r.Keys = append(r.Keys, "grown")
		r.Kids = append(r.Kids, 815)
		l.Cells, l.Keys, l.Kids = l.Cells[:len(left.Cells)], l.Keys[:len(left.Keys)], l.Kids[:len(left.Kids)]
		if !same(l, left) {
			t.Errorf("the right half has grown into the left one: %+v, want %+v", l, left)
		}
	}
}

// P8.7: leaves are joined at a key that is above all of the left one, and not above any of the right one.
func TestJoinLeaves(t *testing.T) {
	l, r := leaf("a", "1", "c", "3"), leaf("m", "5", "t", "7")
	both := leaf("a", "1", "c", "3", "m", "5", "t", "7")
	for key, want := range map[string]api.Errno{
		"": api.ErrArg, x(321): api.ErrArg, "a": api.ErrOrder, "b": api.ErrOrder, "c": api.ErrOrder, "c\x00": api.OK, "d": api.OK, "l": api.OK, "m": api.OK,
		"m\x00": api.ErrOrder, "n": api.ErrOrder, "t": api.ErrOrder, "z": api.ErrOrder, "d" + x(319): api.OK, "d" + x(320): api.ErrArg,
	} {
		got, e := node.Join(l, key, r)
		if want == api.OK {
			wantNode(t, "Join at "+key[:1], got, e, both)
		} else {
			wantRefused(t, "Join", got, e, want)
		}
	}
	got, e := node.Join(leaf(), "m", r)
	wantNode(t, "no cell on the left", got, e, r)
	got, e = node.Join(leaf(), "n", r)
	wantRefused(t, "no cell on the left, the key above", got, e, api.ErrOrder)
	got, e = node.Join(l, "d", leaf())
	wantNode(t, "no cell on the right", got, e, l)
	got, e = node.Join(l, "c", leaf())
	wantRefused(t, "no cell on the right, the key not above", got, e, api.ErrOrder)
	got, e = node.Join(leaf(), "a", leaf())
	wantNode(t, "no cell at all", got, e, leaf())
	got, e = node.Join(leaf(), "", leaf())
	wantRefused(t, "no cell at all, and no key", got, e, api.ErrArg)
	got, e = node.Join(r, "d", l)
	wantRefused(t, "the wrong way round", got, e, api.ErrOrder)
}

// P8.7: branches are joined with the key between theirs.
func TestJoinBranches(t *testing.T) {
	l, r := branch(7, "c", "e"), branch(20, "m")
	both := func(key string) api.Node {
		return api.Node{Keys: []string{"c", "e", key, "m"}, Kids: []uint32{7, 8, 9, 20, 21}}
	}
	for key, want := range map[string]api.Errno{
		"": api.ErrArg, "e" + x(320): api.ErrArg, "a": api.ErrOrder, "c": api.ErrOrder, "d": api.ErrOrder, "e": api.ErrOrder, "f": api.OK, "l": api.OK,
		"e" + x(319): api.OK, "m": api.ErrOrder, "z": api.ErrOrder,
	} {
		got, e := node.Join(l, key, r)
		if want == api.OK {
			wantNode(t, "Join at "+key[:1], got, e, both(key))
		} else {
			wantRefused(t, "Join", got, e, want)
		}
	}
	got, e := node.Join(branch(7), "m", branch(7))
	wantNode(t, "single kids", got, e, api.Node{Keys: []string{"m"}, Kids: []uint32{7, 7}})
	got, e = node.Join(l, "z", branch(20))
	wantNode(t, "a single kid on the right", got, e, api.Node{Keys: []string{"c", "e", "z"}, Kids: []uint32{7, 8, 9, 20}})
	got, e = node.Join(branch(7), "a", r)
	wantNode(t, "a single kid on the left", got, e, api.Node{Keys: []string{"a", "m"}, Kids: []uint32{7, 20, 21}})
}

// P8.7: the errors ahead of the order, in theirs: of l, of r, unlike kinds, the key.
func TestJoinRefused(t *testing.T) {
	for want, nodes := range unfit(t) {
		for _, n := range nodes {
			for _, good := range []api.Node{leaf("a", "1"), branch(7, "m")} {
				got, e := node.Join(n, "", good)
				wantRefused(t, "l may not be", got, e, want)
				got, e = node.Join(good, "", n)
				wantRefused(t, "r may not be", got, e, want)
			}
			for other, further := range unfit(t) {
				got, e := node.Join(further[0], "", n)
				wantRefused(t, "neither may be", got, e, other)
			}
		}
	}
	for _, key := range []string{"", "b", x(321)} {
		got, e := node.Join(leaf("a", "1"), key, branch(7, "m"))
		wantRefused(t, "a leaf and a branch", got, e, api.ErrNode)
		got, e = node.Join(branch(7, "m"), key, leaf("a", "1"))
		wantRefused(t, "a branch and a leaf", got, e, api.ErrNode)
		got, e = node.Join(leaf(), key, branch(7))
		wantRefused(t, "empty ones", got, e, api.ErrNode)
	}
}

// P8.7: what is joined may have 1992 bytes, and not one more; the order is told ahead of that.
func TestJoinSizes(t *testing.T) {
	for size := 1970; size <= 2010; size++ {
		want := api.OK
		if size > 1992 {
			want = api.ErrBig
		}
		l, b := leafOf(t, size), branchOf(t, size)
		for i := 1; i < len(l.Cells); i++ {
			left, key, right := halves(l, i)
			if got, e := node.Join(left, key, right); e != want || e == api.OK && !same(got, l) || e != api.OK && !isNothing(got) {
				t.Errorf("%d bytes, cut at the cell %d: %v, want %v", size, i, e, want)
			}
			got, e := node.Join(left, number(1<<20), right)
			wantRefused(t, "leaves in no order", got, e, api.ErrOrder)
		}
		for i := range b.Keys {
			left, key, right := halves(b, i)
			if got, e := node.Join(left, key, right); e != want || e == api.OK && !same(got, b) || e != api.OK && !isNothing(got) {
				t.Errorf("%d bytes, cut at the key %d: %v, want %v", size, i, e, want)
			}
			if i < len(b.Keys)-1 {
				got, e := node.Join(left, number(1<<20), right)
				wantRefused(t, "branches in no order", got, e, api.ErrOrder)
			}
		}
	}
}

// P8.7: drawn nodes and keys, held against the oracle.
func TestDrawnJoins(t *testing.T) {
	r := rand.New(rand.NewSource(88))
	seen := map[api.Errno]int{}
	for range 40000 {
		l, right := drawnNode(r), drawnNode(r)
		key := drawnKey(r)
		if r.Intn(2) == 0 { // neighbours that were one
			if a, k, b, e := wantSplit(l); e == api.OK {
				l, right = a, b
				if r.Intn(2) == 0 {
					key = k
				}
			}
		}
		want, f := wantJoin(l, key, right)
		seen[f]++
		if got, e := node.Join(l, key, right); e != f || !same(got, want) {
			t.Fatalf("Join(%+v, %q, %+v): %+v, %v, want %+v, %v", l, key, right, got, e, want, f)
		}
	}
	for _, e := range []api.Errno{api.OK, api.ErrNode, api.ErrArg, api.ErrOrder, api.ErrBig} {
		if seen[e] < 100 {
			t.Errorf("only %d Joins answered %v", seen[e], e)
		}
	}
}
