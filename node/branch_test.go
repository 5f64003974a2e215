package node_test

import (
	"math"
	"math/rand"
	"testing"

	"concord/api"
	"concord/node"
)

// P8.5: Grow lays a key behind the i-th kid, and the kid behind the key.
func TestGrow(t *testing.T) {
	n := api.Node{Keys: []string{"d", "m"}, Kids: []uint32{30, 20, 10}}
	for i, c := range []struct {
		key  string
		want api.Node
	}{
		{"a", api.Node{Keys: []string{"a", "d", "m"}, Kids: []uint32{30, 99, 20, 10}}},
		{"e", api.Node{Keys: []string{"d", "e", "m"}, Kids: []uint32{30, 20, 99, 10}}},
		{"z", api.Node{Keys: []string{"d", "m", "z"}, Kids: []uint32{30, 20, 10, 99}}},
	} {
		got, e := node.Grow(n, i, c.key, 99)
		wantNode(t, "Grow", got, e, c.want)
	}
	got, e := node.Grow(branch(7), 0, x(320), 7)
	wantNode(t, "Grow of a single kid", got, e, api.Node{Keys: []string{x(320)}, Kids: []uint32{7, 7}})
	got, e = node.Grow(branch(7), 0, "a", math.MaxUint32)
	wantNode(t, "Grow by the greatest kid", got, e, api.Node{Keys: []string{"a"}, Kids: []uint32{7, math.MaxUint32}})
}

// P8.5: keys that would not rise: ErrOrder.
func TestGrowOrder(t *testing.T) {
	n := branch(7, "d", "m")
	for _, c := range []struct {
		i   int
		key string
	}{{0, "d"}, {0, "e"}, {0, "z"}, {1, "a"}, {1, "d"}, {1, "m"}, {1, "z"}, {2, "a"}, {2, "m"}} {
		got, e := node.Grow(n, c.i, c.key, 9)
		wantRefused(t, "Grow", got, e, api.ErrOrder)
		got, e = node.Grow(n, c.i, c.key, 0)
		wantRefused(t, "Grow by 0", got, e, api.ErrArg)
	}
}

// P8.5: the errors ahead of the order.
func TestBranchesRefused(t *testing.T) {
	far := []int{-1, math.MinInt, math.MaxInt, 99}
	for want, nodes := range unfit(t) {
		for _, n := range nodes {
			wantAllRefused(t, "what may not be", n, 0, "a", 9, want)
			wantAllRefused(t, "what may not be", n, -1, "", 0, want)
		}
	}
	for _, n := range []api.Node{leaf(), leaf("a", "1")} {
		wantAllRefused(t, "a leaf", n, 0, "m", 9, api.ErrNode)
		wantAllRefused(t, "a leaf", n, -1, "", 0, api.ErrNode)
	}
	n := branch(7, "d", "m")
	for _, i := range far {
		wantAllRefused(t, "i", n, i, "e", 9, api.ErrArg)
	}
	got, e := node.Grow(n, 3, "z", 9)
	wantRefused(t, "Grow at 3", got, e, api.ErrArg)
	got, e = node.Shrink(n, 2)
	wantRefused(t, "Shrink at 2", got, e, api.ErrArg)
	got, e = node.Turn(n, 2, "z")
	wantRefused(t, "Turn at 2", got, e, api.ErrArg)
	got, e = node.Shrink(branch(7), 0)
	wantRefused(t, "Shrink of a single kid", got, e, api.ErrArg)
	got, e = node.Turn(branch(7), 0, "a")
	wantRefused(t, "Turn of a single kid", got, e, api.ErrArg)
	for _, key := range []string{"", x(321), "d" + x(999)} {
		got, e = node.Grow(n, 1, key, 9)
		wantRefused(t, "Grow by a key that may not be", got, e, api.ErrArg)
		got, e = node.Turn(n, 1, key)
		wantRefused(t, "Turn to a key that may not be", got, e, api.ErrArg)
	}
	got, e = node.Grow(n, 1, "e", 0)
	wantRefused(t, "Grow by the kid 0", got, e, api.ErrArg)
}

func wantAllRefused(t *testing.T, what string, n api.Node, i int, key string, kid uint32, want api.Errno) {
	t.Helper()
	got, e := node.Grow(n, i, key, kid)
	wantRefused(t, what+": Grow", got, e, want)
	got, e = node.Shrink(n, i)
	wantRefused(t, what+": Shrink", got, e, want)
	got, e = node.Turn(n, i, key)
	wantRefused(t, what+": Turn", got, e, want)
}

// P8.5: Shrink leaves the i-th key out, and the kid behind it.
func TestShrink(t *testing.T) {
	n := api.Node{Keys: []string{"d", "m", "t"}, Kids: []uint32{30, 20, 10, 40}}
	for i, want := range []api.Node{
		{Keys: []string{"m", "t"}, Kids: []uint32{30, 10, 40}},
		{Keys: []string{"d", "t"}, Kids: []uint32{30, 20, 40}},
		{Keys: []string{"d", "m"}, Kids: []uint32{30, 20, 10}},
	} {
		got, e := node.Shrink(n, i)
		wantNode(t, "Shrink", got, e, want)
	}
	got, e := node.Shrink(branch(7, "m"), 0)
	wantNode(t, "Shrink of the only key", got, e, branch(7))
}

// P8.5: Turn lays another key over the i-th; the kids stay.
func TestTurn(t *testing.T) {
	n := api.Node{Keys: []string{"d", "m", "t"}, Kids: []uint32{30, 20, 10, 40}}
	for _, c := range []struct {
		i    int
		key  string
		keys []string
	}{
		{0, "a", []string{"a", "m", "t"}}, {0, "d", []string{"d", "m", "t"}}, {0, "l", []string{"l", "m", "t"}},
		{1, "d\x00", []string{"d", "d\x00", "t"}}, {1, "s", []string{"d", "s", "t"}},
		{2, "n", []string{"d", "m", "n"}}, {2, "z" + x(319), []string{"d", "m", "z" + x(319)}},
	} {
		got, e := node.Turn(n, c.i, c.key)
		wantNode(t, "Turn", got, e, api.Node{Keys: c.keys, Kids: n.Kids})
	}
	for _, c := range []struct {
		i   int
		key string
	}{{0, "m"}, {0, "z"}, {1, "d"}, {1, "a"}, {1, "t"}, {1, "z"}, {2, "m"}, {2, "a"}} {
		got, e := node.Turn(n, c.i, c.key)
		wantRefused(t, "Turn", got, e, api.ErrOrder)
	}
}

// P8.5: the branch may have 1992 bytes behind Grow and Turn, and not one more; the order is told ahead of the size.
func TestBranchSizes(t *testing.T) {
	full, seen := false, map[api.Errno]bool{}
	for size := 1960; size <= 1992; size++ {
		n := branchOf(t, size)
		last := len(n.Keys) - 1
		for k := 3; k < 40; k++ {
			key := number(1<<20) + x(k-3)
			want, f := wantGrow(n, len(n.Keys), key, 9)
			if (f == api.OK) != (size+1+k+4 <= 1992) {
				t.Fatalf("the oracle: %d bytes and a key of %d: %v", size, k, f)
			}
			got, e := node.Grow(n, len(n.Keys), key, 9)
			if e != f || !same(got, want) {
				t.Errorf("Grow: %d bytes and a key of %d: %v, want %v", size, k, e, f)
			}
		}
		got, e := node.Grow(n, 0, number(1<<20)+x(300), 9)
		wantRefused(t, "Grow, unsorted and too great", got, e, api.ErrOrder)
		short := n.Keys[last][:9]
		for more := range api.MaxCell - 8 {
			want, f := wantTurn(n, last, short+x(more))
			got, e := node.Turn(n, last, short+x(more))
			if e != f || !same(got, want) {
				t.Errorf("Turn: %d bytes, the last key of %d: %v, want %v", size, 9+more, e, f)
			}
			seen[f] = true
			full = full || node.Size(got) == 1992
		}
		got, e = node.Turn(n, 0, short+x(311))
		wantRefused(t, "Turn, unsorted and too great", got, e, api.ErrOrder)
	}
	if !full || !seen[api.ErrBig] {
		t.Errorf("no Turn to 1992 bytes, or none beyond: %v, %v", full, seen)
	}
}

// P8.5: drawn branches, held against the oracle.
func TestDrawnBranches(t *testing.T) {
	r := rand.New(rand.NewSource(86))
	seen := map[api.Errno]int{}
	for range 40000 {
		n, i, key, kid := drawnNode(r), r.Intn(16)-1, drawnKey(r), uint32(r.Intn(9))
		if len(n.Keys) > 0 && r.Intn(2) == 0 { // at the place where it belongs
			i = max(wantKid(n, key), 0)
		}
		want, f := wantGrow(n, i, key, kid)
		seen[f]++
		if got, e := node.Grow(n, i, key, kid); e != f || !same(got, want) {
			t.Fatalf("Grow(%+v, %d, %q, %d): %+v, %v, want %+v, %v", n, i, key, kid, got, e, want, f)
		}
		want, f = wantShrink(n, i)
		if got, e := node.Shrink(n, i); e != f || !same(got, want) {
			t.Fatalf("Shrink(%+v, %d): %+v, %v, want %+v, %v", n, i, got, e, want, f)
		}
		want, f = wantTurn(n, i, key)
		if got, e := node.Turn(n, i, key); e != f || !same(got, want) {
			t.Fatalf("Turn(%+v, %d, %q): %+v, %v, want %+v, %v", n, i, key, got, e, want, f)
		}
	}
	for _, e := range []api.Errno{api.OK, api.ErrNode, api.ErrArg, api.ErrOrder, api.ErrBig} {
		if seen[e] < 100 {
			t.Errorf("only %d Grows answered %v", seen[e], e)
		}
	}
}
