package tree_test

import (
	"math"
	"testing"

	"concord/api"
	"concord/tree"
)

// widths are how many nodes stand on each level.
func widths() [4]int { return [4]int{1, 16, 256, 4096} }

// P15.1: every node there is, counted level by level.
func TestNodesInOrder(t *testing.T) {
	next := uint16(0)
	for level, count := range widths() {
		for i := range count {
			n, e := tree.Node(level, i)
			if n != next || e != api.OK {
				t.Fatalf("Node(%d, %d): %d, %v, want %d", level, i, n, e, next)
			}
			if tree.Level(n) != int8(level) || tree.Index(n) != i {
				t.Fatalf("%d: Level %d, Index %d", n, tree.Level(n), tree.Index(n))
			}
			next++
		}
	}
	if next != 4369 {
		t.Errorf("%d nodes", next)
	}
}

// P15.1: levels and places that there are not, the edges of each level among them.
func TestNoNodes(t *testing.T) {
	far := []int{-1, -2, -16, 65536, 65537, 1 << 32, math.MaxInt, math.MinInt, math.MinInt + 1, math.MaxInt - 1}
	for level, count := range widths() {
		for _, i := range append([]int{count, count + 1}, far...) {
			if n, e := tree.Node(level, i); n != 0 || e != api.ErrArg {
				t.Errorf("Node(%d, %d): %d, %v", level, i, n, e)
			}
		}
	}
	for _, level := range append([]int{4, 5, 256, 257}, far...) {
		for _, i := range append([]int{0, 1, 15, 4095}, far...) {
			if n, e := tree.Node(level, i); n != 0 || e != api.ErrArg {
				t.Errorf("Node(%d, %d): %d, %v", level, i, n, e)
			}
		}
	}
}

// P15.1: of every number above 4368 there is no level, no place, no parent and no child.
func TestNumbersOfNoNode(t *testing.T) {
	for n := 4369; n <= math.MaxUint16; n++ {
		node := uint16(n)
		up, under := tree.Parent(node)
		if tree.Level(node) != -1 || tree.Index(node) != 0 || up != 0 || under {
			t.Fatalf("%d: Level %d, Index %d, Parent %d, %v", n, tree.Level(node), tree.Index(node), up, under)
		}
		for i := -1; i <= 16; i++ {
			if kid, ok := tree.Kid(node, i); kid != 0 || ok {
				t.Fatalf("Kid(%d, %d): %d, %v", n, i, kid, ok)
			}
		}
	}
}

// P15.1: the children of the i-th node of a level are the sixteen of the next one from 16 i on; their Parent is that node.
func TestKids(t *testing.T) {
	for level, count := range widths() {
		for i := range count {
			node, _ := tree.Node(level, i)
			for k := range 16 {
				kid, ok := tree.Kid(node, k)
				if level == 3 {
					if kid != 0 || ok {
						t.Fatalf("Kid(%d, %d): %d, %v", node, k, kid, ok)
					}
					continue
				}
				want, _ := tree.Node(level+1, 16*i+k)
				up, under := tree.Parent(kid)
				if kid != want || !ok || up != node || !under {
					t.Fatalf("Kid(%d, %d): %d, %v, want %d; its Parent: %d, %v", node, k, kid, ok, want, up, under)
				}
			}
		}
	}
	if up, ok := tree.Parent(0); up != 0 || ok {
		t.Errorf("Parent(0): %d, %v", up, ok)
	}
}

// P15.1: a node has children from 0 to 15 alone.
func TestNoKids(t *testing.T) {
	for node := range uint16(273) {
		for _, i := range []int{-1, 16, 17, -16, 32, 255, 256, 65535, 65536, 65537, 1 << 32, math.MaxInt, math.MinInt} {
			if kid, ok := tree.Kid(node, i); kid != 0 || ok {
				t.Fatalf("Kid(%d, %d): %d, %v", node, i, kid, ok)
			}
		}
	}
}
