package node_test

import (
	"testing"

	"concord/api"
	"concord/node"
)

func exampleLeaf() api.Node { return leaf("a", "1", "c", "3") }

// The chapter's first example.
func TestFirstExample(t *testing.T) {
	wantEncode(t, "L", exampleLeaf(), "\x01\x00\x02\x01\x61\x01\x31\x01\x63\x01\x33", api.OK)
	for size, n := range map[int]api.Node{11: exampleLeaf(), 3: leaf(), 7: branch(7)} {
		if got := node.Size(n); got != size {
			t.Errorf("Size(%+v): %d", n, got)
		}
	}
	wantEncode(t, "no cells", leaf(), "\x01\x00\x00", api.OK)
	wantEncode(t, "one kid", branch(7), "\x02\x00\x00\x00\x00\x00\x07", api.OK)
}

// The second one.
func TestSecondExample(t *testing.T) {
	for key, want := range map[string]int{"b": 1, "c": 1, "": 0} {
		if i, has := node.Find(exampleLeaf(), key); i != want || has != (key == "c") {
			t.Errorf("Find(L, %q): %d, %v", key, i, has)
		}
	}
	for key, want := range map[string]int{"a": 0, "m": 1, "z": 1} {
		if got := node.Kid(branch(7, "m"), key); got != want {
			t.Errorf("Kid(7 m 8, %q): %d", key, got)
		}
	}
	if got := node.Kid(exampleLeaf(), "a"); got != -1 {
		t.Errorf("Kid(L, a): %d", got)
	}
}

// The third one.
func TestThirdExample(t *testing.T) {
	got, e := node.Put(exampleLeaf(), "b", "2")
	wantNode(t, "Put b", got, e, leaf("a", "1", "b", "2", "c", "3"))
	got, e = node.Put(exampleLeaf(), "c", "")
	wantNode(t, "Put c", got, e, leaf("a", "1", "c", ""))
	got, e = node.Put(exampleLeaf(), "", "x")
	wantRefused(t, "Put of no key", got, e, api.ErrArg)
	got, e = node.Put(exampleLeaf(), "b", x(320))
	wantRefused(t, "Put of 320 bytes", got, e, api.ErrBig)
	if got, ok := node.Take(exampleLeaf(), "a"); !ok || !same(got, leaf("c", "3")) {
		t.Errorf("Take a: %+v, %v", got, ok)
	}
	if got, ok := node.Take(exampleLeaf(), "b"); ok || !isNothing(got) {
		t.Errorf("Take b: %+v, %v", got, ok)
	}
}

// The fourth one.
func TestFourthExample(t *testing.T) {
	n := branch(7, "m")
	got, e := node.Grow(n, 1, "t", 9)
	wantNode(t, "Grow", got, e, branch(7, "m", "t"))
	got, e = node.Grow(n, 0, "t", 9)
	wantRefused(t, "Grow at 0", got, e, api.ErrOrder)
	got, e = node.Grow(n, 2, "t", 9)
	wantRefused(t, "Grow at 2", got, e, api.ErrArg)
	got, e = node.Grow(n, 0, "a", 0)
	wantRefused(t, "Grow by 0", got, e, api.ErrArg)
	got, e = node.Shrink(branch(7, "m", "t"), 0)
	wantNode(t, "Shrink", got, e, api.Node{Keys: []string{"t"}, Kids: []uint32{7, 9}})
	got, e = node.Turn(n, 0, "k")
	wantNode(t, "Turn", got, e, branch(7, "k"))
}

// The fifth one.
func TestFifthExample(t *testing.T) {
	wantHalves(t, "L", exampleLeaf(), leaf("a", "1"), "c", leaf("c", "3"))
	wantHalves(t, "7 m 8 t 9", branch(7, "m", "t"), branch(7), "m", branch(8, "t"))
	wantUnsplit(t, "one cell", leaf("a", "1"), api.ErrNode)
	wantUnsplit(t, "the branch 7", branch(7), api.ErrNode)
}

// The sixth one.
func TestSixthExample(t *testing.T) {
	for _, key := range []string{"b", "c"} {
		got, e := node.Join(leaf("a", "1"), key, leaf("c", "3"))
		wantNode(t, "Join", got, e, exampleLeaf())
	}
	for _, key := range []string{"a", "d"} {
		got, e := node.Join(leaf("a", "1"), key, leaf("c", "3"))
		wantRefused(t, "Join", got, e, api.ErrOrder)
	}
	got, e := node.Join(branch(7), "m", branch(8))
	wantNode(t, "Join of branches", got, e, branch(7, "m"))
}

// The seventh one.
func TestSeventhExample(t *testing.T) {
	for want, n := range map[api.Errno]api.Node{
		api.ErrNode:  {Leaf: true, Cells: exampleLeaf().Cells, Kids: []uint32{7}},
		api.ErrOrder: leaf("b", "", "a", ""),
		api.ErrBig:   leaf("", "1"),
	} {
		if e := node.Check(n); e != want {
			t.Errorf("Check(%+v): %v, want %v", n, e, want)
		}
	}
}
