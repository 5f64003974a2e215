package node_test

import (
	"math/rand"
	"testing"

	"concord/api"
	"concord/node"
)

func wantNode(t *testing.T, what string, n api.Node, e api.Errno, want api.Node) {
	t.Helper()
	if e != api.OK || !same(n, want) {
		t.Errorf("%s: %+v, %v, want %+v", what, n, e, want)
	}
}

// wantRefused looks whether an error stands alone: beside it all is zero (R4).
func wantRefused(t *testing.T, what string, n api.Node, e, want api.Errno) {
	t.Helper()
	if e != want || !isNothing(n) {
		t.Errorf("%s: %+v, %v, want %v", what, n, e, want)
	}
}

// unfit are nodes that may not be, each with what Check answers.
func unfit(t *testing.T) map[api.Errno][]api.Node {
	return map[api.Errno][]api.Node{
		api.ErrNode:  {{}, {Leaf: true, Kids: []uint32{1}}, {Keys: []string{"m"}, Kids: []uint32{0, 1}}},
		api.ErrBig:   {leaf("", "1"), branch(7, ""), leafOf(t, 1993), branchOf(t, 1993)},
		api.ErrOrder: {leaf("b", "", "a", ""), branch(7, "t", "m")},
	}
}

// P8.3: Find counts the cells below a key, and says whether one has it; of any other node 0 and false.
func TestFind(t *testing.T) {
	n := leaf("b", "1", "bb", "2", "d", "3", "\xff", "4")
	for _, c := range []struct {
		key   string
		place int
		has   bool
	}{
		{"", 0, false}, {"\x00", 0, false}, {"a", 0, false}, {"b", 0, true}, {"b\x00", 1, false}, {"ba", 1, false}, {"bb", 1, true},
		{"c", 2, false}, {"d", 2, true}, {"e", 3, false}, {"\xfe", 3, false}, {"\xff", 3, true}, {"\xff\x00", 4, false}, {"d" + x(9999), 3, false},
	} {
		if i, has := node.Find(n, c.key); i != c.place || has != c.has {
			t.Errorf("Find(%.9q): %d, %v, want %d, %v", c.key, i, has, c.place, c.has)
		}
	}
	if i, has := node.Find(leaf(), "a"); i != 0 || has {
		t.Errorf("Find in an empty leaf: %d, %v", i, has)
	}
	others := []api.Node{branch(7, "m"), {Leaf: true, Cells: n.Cells, Kids: []uint32{1}}, {Cells: n.Cells}, leaf("a", "1", "d", "", "c", ""), leaf("a", "", "b", x(320))}
	for _, o := range others {
		for _, key := range []string{"m", "d", "a", "z", ""} {
			if i, has := node.Find(o, key); i != 0 || has {
				t.Errorf("Find(%+v, %q): %d, %v", o, key, i, has)
			}
		}
	}
}

// P8.3: Kid counts the keys that are not above a key; of any other node it is -1.
func TestKid(t *testing.T) {
	n := branch(7, "b", "bb", "d", "\xff")
	for key, want := range map[string]int{
		"": 0, "\x00": 0, "a": 0, "b": 1, "b\x00": 1, "ba": 1, "bb": 2, "c": 2, "d": 3, "e": 3, "\xfe": 3, "\xff": 4, "\xff\x00": 4, "d" + x(9999): 3,
	} {
		if got := node.Kid(n, key); got != want {
			t.Errorf("Kid(%.9q): %d, want %d", key, got, want)
		}
	}
	if got := node.Kid(branch(7), "a"); got != 0 {
		t.Errorf("Kid of a branch without keys: %d", got)
	}
	others := []api.Node{{}, leaf(), leaf("a", "1"), {Keys: []string{"b"}, Kids: []uint32{1}}, {Kids: []uint32{0}}, branch(7, "t", "m"), branch(7, ""), branchOf(t, 1993)}
	for _, o := range others {
		for _, key := range []string{"", "a", "z"} {
			if got := node.Kid(o, key); got != -1 {
				t.Errorf("Kid(%+v, %q): %d", o, key, got)
			}
		}
	}
}

// P8.3: drawn nodes and keys, held against the oracle.
func TestDrawnPlaces(t *testing.T) {
	r := rand.New(rand.NewSource(84))
	for range 30000 {
		n, key := drawnNode(r), drawnKey(r)
		place, has := wantFind(n, key)
		if i, h := node.Find(n, key); i != place || h != has {
			t.Fatalf("Find(%+v, %q): %d, %v, want %d, %v", n, key, i, h, place, has)
		}
		if got, want := node.Kid(n, key), wantKid(n, key); got != want {
			t.Fatalf("Kid(%+v, %q): %d, want %d", n, key, got, want)
		}
	}
}

// P8.4: Put lays a cell at its place, or over the one that has its key.
func TestPut(t *testing.T) {
	n := leaf("b", "1", "d", "2", "f", "3")
	for _, c := range []struct {
		key, value string
		want       api.Node
	}{
		{"a", "0", leaf("a", "0", "b", "1", "d", "2", "f", "3")},
		{"c", "", leaf("b", "1", "c", "", "d", "2", "f", "3")},
		{"g", "9", leaf("b", "1", "d", "2", "f", "3", "g", "9")},
		{"b", "9", leaf("b", "9", "d", "2", "f", "3")},
		{"d", "2", leaf("b", "1", "d", "2", "f", "3")},
		{"f", "", leaf("b", "1", "d", "2", "f", "")},
		{"e", x(319), leaf("b", "1", "d", "2", "e", x(319), "f", "3")},
		{"d" + x(319), "", leaf("b", "1", "d", "2", "d"+x(319), "", "f", "3")},
	} {
		got, e := node.Put(n, c.key, c.value)
		wantNode(t, "Put of "+c.key[:1], got, e, c.want)
	}
	got, e := node.Put(leaf(), "a", "1")
	wantNode(t, "Put into an empty leaf", got, e, leaf("a", "1"))
	got, e = node.Put(api.Node{Leaf: true, Cells: []api.Cell{}, Keys: []string{}, Kids: []uint32{}}, "a", "1")
	wantNode(t, "Put into one of empty lists", got, e, leaf("a", "1"))
}

// P8.4: Put's errors, in their order.
func TestPutRefused(t *testing.T) {
	for want, nodes := range unfit(t) {
		for _, n := range nodes {
			got, e := node.Put(n, "", x(999))
			wantRefused(t, "Put into what may not be", got, e, want)
			got, e = node.Put(n, "a", "1")
			wantRefused(t, "Put into what may not be", got, e, want)
		}
	}
	got, e := node.Put(branch(7, "m"), "", x(999))
	wantRefused(t, "Put into a branch", got, e, api.ErrNode)
	n := leaf("b", "1", "x", "2")
	for _, value := range []string{"", "1", x(320), x(321)} {
		got, e = node.Put(n, "", value)
		wantRefused(t, "Put of the empty key", got, e, api.ErrArg)
	}
	for _, c := range [][2]string{{"a", x(320)}, {"b", x(320)}, {x(321), ""}, {x(320), "1"}, {x(9999), x(9999)}} {
		got, e = node.Put(n, c[0], c[1])
		wantRefused(t, "Put of what may not be", got, e, api.ErrBig)
	}
}

// P8.4: the leaf may have 1992 bytes behind a Put, and not one more.
func TestPutSize(t *testing.T) {
	for size := 1980; size <= 1992; size++ {
		n := leafOf(t, size)
		for v := range 20 {
			key := number(1 << 20)
			want, f := wantPut(n, key, x(v))
			if (f == api.OK) != (size+4+1+v <= 1992) {
				t.Fatalf("the oracle: %d bytes, and %d of value: %v", size, v, f)
			}
			if got, e := node.Put(n, key, x(v)); e != f || !same(got, want) {
				t.Errorf("%d bytes, and %d of value: %v, want %v", size, v, e, f)
			}
		}
		last := n.Cells[len(n.Cells)-1]
		got, e := node.Put(n, last.Key, last.Value+x(1992-size))
		if e != api.OK || node.Size(got) != 1992 {
			t.Errorf("over the last, up to 1992: %v, %d", e, node.Size(got))
		}
		got, e = node.Put(n, last.Key, last.Value+x(1993-size))
		wantRefused(t, "over the last, one more", got, e, api.ErrBig)
	}
	full := leafOf(t, 1992)
	got, e := node.Put(full, full.Cells[0].Key, "")
	if e != api.OK || node.Size(got) >= 1992 {
		t.Errorf("a shorter value in a full leaf: %v", e)
	}
}

// P8.4: Take leaves the others; nothing and false of a key that is not there, and of what is no leaf that may be.
func TestTake(t *testing.T) {
	n := leaf("b", "1", "d", "2", "f", "3")
	for key, want := range map[string]api.Node{
		"b": leaf("d", "2", "f", "3"), "d": leaf("b", "1", "f", "3"), "f": leaf("b", "1", "d", "2"),
	} {
		if got, ok := node.Take(n, key); !ok || !same(got, want) {
			t.Errorf("Take(%q): %+v, %v", key, got, ok)
		}
	}
	if got, ok := node.Take(leaf("a", "1"), "a"); !ok || !same(got, leaf()) {
		t.Errorf("Take of the only one: %+v, %v", got, ok)
	}
	for _, key := range []string{"", "a", "c", "g", "bb", x(999)} {
		if got, ok := node.Take(n, key); ok || !isNothing(got) {
			t.Errorf("Take(%.9q): %+v, %v", key, got, ok)
		}
	}
	others := []api.Node{leaf(), branch(7, "a"), {Cells: leaf("a", "1").Cells}, {Leaf: true, Cells: leaf("a", "1").Cells, Kids: []uint32{1}}, leaf("a", "1", "a", "2"), leaf("a", "1", "b", x(320)), leaf("", "1")}
	for _, o := range others {
		for _, key := range []string{"a", ""} {
			if got, ok := node.Take(o, key); ok || !isNothing(got) {
				t.Errorf("Take(%+v, %q): %+v, %v", o, key, got, ok)
			}
		}
	}
}

// P8.4: drawn leaves and cells, held against the oracle.
func TestDrawnPuts(t *testing.T) {
	r := rand.New(rand.NewSource(85))
	seen := map[api.Errno]int{}
	for range 30000 {
		n, key, value := drawnNode(r), drawnKey(r), drawnValue(r)
		want, f := wantPut(n, key, value)
		seen[f]++
		if got, e := node.Put(n, key, value); e != f || !same(got, want) {
			t.Fatalf("Put(%+v, %q, %q): %+v, %v, want %+v, %v", n, key, value, got, e, want, f)
		}
		want, ok := wantTake(n, key)
		if got, o := node.Take(n, key); o != ok || !same(got, want) {
			t.Fatalf("Take(%+v, %q): %+v, %v, want %+v, %v", n, key, got, o, want, ok)
		}
	}
	for _, e := range []api.Errno{api.OK, api.ErrNode, api.ErrArg, api.ErrOrder, api.ErrBig} {
		if seen[e] < 100 {
			t.Errorf("only %d Puts answered %v", seen[e], e)
		}
	}
}
