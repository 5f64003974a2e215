package node_test

import (
	"math/rand"
	"slices"
	"testing"

	"concord/api"
	"concord/node"
)

// fits says whether a node may be and fits.
func fits(n api.Node) bool { return node.Check(n) == api.OK && node.Size(n) <= api.PageBody }

// wantCut looks whether a node fits, or splits into two that fit; and what is joined again is the node.
func wantCut(t *testing.T, what string, n api.Node) {
	t.Helper()
	l, key, r, e := node.Split(n)
	if e == api.ErrNode {
		if !fits(n) {
			t.Errorf("%s: nothing to cut, and it does not fit: %+v", what, n)
		}
		return
	}
	if e != api.OK || !fits(l) || !fits(r) {
		t.Errorf("%s: %d bytes split into %d and %d: %v", what, node.Size(n), node.Size(l), node.Size(r), e)
	}
	if got, e := node.Join(l, key, r); e != api.OK || !same(got, n) {
		t.Errorf("%s: joined again: %+v, %v, want %+v", what, got, e, n)
	}
}

// P8.8: Join of what Split answers gives the node back, of nodes that do not fit, too.
func TestSplitAndJoin(t *testing.T) {
	r := rand.New(rand.NewSource(89))
	for range 20000 {
		n := drawnNode(r)
		l, key, right, e := node.Split(n)
		if e != api.OK {
			continue
		}
		if got, e := node.Join(l, key, right); e != api.OK || !same(got, n) {
			t.Fatalf("%+v: %+v, %v", n, got, e)
		}
	}
}

// drawnFull is a leaf that fits, in which there is little room: its keys are a beginning and one byte each, its values up to a drawn length.
func drawnFull(r *rand.Rand, ahead string) api.Node {
	n := leaf()
	long := r.Intn(api.MaxCell - len(ahead))
	for i := range 200 {
		value := x(long)
		if r.Intn(2) == 0 {
			value = x(r.Intn(long + 1))
		}
		n.Cells = append(n.Cells, api.Cell{Key: ahead + string([]byte{byte(i)}), Value: value})
		if len(body(n)) > api.PageBody {
			n.Cells = n.Cells[:len(n.Cells)-1]
		}
	}
	return n
}

// drawnFullBranch is a branch that fits, in which there is little room: its keys are a beginning and a byte, and some more.
func drawnFullBranch(r *rand.Rand, ahead string) api.Node {
	n := branch(1)
	long := r.Intn(api.MaxCell - len(ahead))
	for i := 1; i < 200; i++ {
		more := branch(1, append(slices.Clone(n.Keys), ahead+string([]byte{byte(i)})+x(r.Intn(long+1)))...)
		if len(body(more)) <= api.PageBody {
			n = more
		}
	}
	return n
}

// P8.8: what Put makes of a leaf that fits splits into two that fit, or fits itself: leaves that are nearly full, and the greatest cells.
func TestPutSplits(t *testing.T) {
	r := rand.New(rand.NewSource(90))
	for range 700 {
		n := drawnFull(r, "")
		for _, c := range [][2]int{{1, 319}, {320, 0}, {128, 192}, {160, 160}, {1, 0}} {
			key := string([]byte{byte(r.Intn(256))}) + x(c[0]-1)
			got, e := node.Put(n, key, x(c[1]))
			if e != api.OK {
				t.Fatalf("Put into %d bytes: %v", node.Size(n), e)
			}
			wantCut(t, "Put", got)
		}
	}
}

// P8.8: likewise what Grow makes of a branch that fits.
func TestGrowSplits(t *testing.T) {
	r := rand.New(rand.NewSource(91))
	for range 700 {
		n := drawnFullBranch(r, "")
		for _, k := range []int{2, 127, 128, 320} {
			i := r.Intn(len(n.Kids))
			key := "\x00" + x(k-1)
			if i > 0 {
				key = n.Keys[i-1][:1] + "\xff" + x(k-2)
			}
			got, e := node.Grow(n, i, key, 815)
			if e != api.OK {
				t.Fatalf("Grow of %d bytes at %d: %v", node.Size(n), i, e)
			}
			wantCut(t, "Grow", got)
		}
	}
}

// P8.8: what Join makes of two nodes that fit splits into two that fit, if it has anything to cut.
func TestJoinSplits(t *testing.T) {
	r := rand.New(rand.NewSource(92))
	wantJoinCut(t, leaf(), "m", leaf())
	wantJoinCut(t, leaf("a", "1"), "m", leaf())
	wantJoinCut(t, branch(7), "m", branch(8))
	joined := 0
	for range 250 {
		if !wantJoinCut(t, drawnFull(r, "a"), "m", drawnFull(r, "z")) {
			t.Errorf("two leaves that fit were not joined")
		}
		if wantJoinCut(t, drawnFullBranch(r, "a"), "m"+x(r.Intn(9)), drawnFullBranch(r, "z")) {
			joined++
		}
	}
	if joined < 40 {
		t.Errorf("only %d branches were joined", joined)
	}
}

// wantJoinCut joins two nodes that fit, if their sizes allow it, and looks how that splits.
func wantJoinCut(t *testing.T, l api.Node, key string, r api.Node) bool {
	t.Helper()
	got, e := node.Join(l, key, r)
	if e == api.OK {
		wantCut(t, "Join", got)
	} else if e != api.ErrBig {
		t.Errorf("Join(%+v, %q, %+v): %v", l, key, r, e)
	}
	return e == api.OK
}

// P8.8: Decode of Encode gives the node, whatever a Put, a Grow or a Split has made.
func TestThereAndBack(t *testing.T) {
	r := rand.New(rand.NewSource(93))
	for range 300 {
		for _, n := range []api.Node{drawnFull(r, ""), drawnFullBranch(r, "")} {
			l, _, right, e := node.Split(n)
			nodes := []api.Node{n, l, right}
			if e != api.OK {
				nodes = nodes[:1]
			}
			for _, m := range nodes {
				s, e := node.Encode(m)
				if e != api.OK || len(s) != node.Size(m) {
					t.Fatalf("Encode of %d bytes: %d, %v", node.Size(m), len(s), e)
				}
				if got, e := node.Decode(s); e != api.OK || !same(got, m) {
					t.Fatalf("there and back: %+v, %v, want %+v", got, e, m)
				}
			}
		}
	}
}

// P8.8: a leaf behind Puts and Takes holds what a map would; what is refused changes nothing.
func TestLeafAsMap(t *testing.T) {
	r := rand.New(rand.NewSource(94))
	for range 100 {
		n, m := leaf(), map[string]string{}
		for range 200 {
			key, value := drawnKey(r), drawnValue(r)
			if r.Intn(3) == 0 {
				got, ok := node.Take(n, key)
				if _, has := m[key]; has != ok {
					t.Fatalf("Take(%q): %v", key, ok)
				}
				if ok {
					n = got
					delete(m, key)
				}
			} else if got, e := node.Put(n, key, value); e == api.OK {
				n = got
				m[key] = value
			}
			if !same(n, leafFrom(m)) {
				t.Fatalf("the leaf %+v, the map %v", n, m)
			}
		}
	}
}
