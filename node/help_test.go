package node_test

import (
	"math/rand"
	"slices"
	"strings"
	"testing"

	"concord/api"
)

// leaf is a leaf of cells that are told as key, value, key, value ..
func leaf(texts ...string) api.Node {
	n := api.Node{Leaf: true}
	for i := 0; i < len(texts); i += 2 {
		n.Cells = append(n.Cells, api.Cell{Key: texts[i], Value: texts[i+1]})
	}
	return n
}

// branch is a branch of the first kid, and of keys whose kids are the numbers behind it: branch(7, "m", "t") is 7 m 8 t 9.
func branch(first uint32, keys ...string) api.Node {
	n := api.Node{Kids: []uint32{first}, Keys: keys}
	for i := range keys {
		n.Kids = append(n.Kids, first+uint32(i)+1)
	}
	return n
}

func x(n int) string { return strings.Repeat("x", n) }

// number is a key of three bytes that rises with i.
func number(i int) string { return string([]byte{byte(i >> 16), byte(i >> 8), byte(i)}) }

// leafOf is a leaf of just that size: cells of the keys number(0), number(1) .. with values as long as they may be, the last one shorter.
func leafOf(t *testing.T, size int) api.Node {
	t.Helper()
	n := leaf()
	for i := 0; ; i++ {
		left := size - len(body(n))
		if left == 0 {
			return n
		}
		if left < 5 {
			t.Fatalf("no leaf of %d bytes", size)
		}
		n.Cells = append(n.Cells, api.Cell{Key: number(i), Value: x(valueOf(left))})
	}
}

// valueOf is how long a value behind a key of three bytes is, so that the cell takes as many of the bytes that are left as it may, and leaves room for another one, or nothing.
func valueOf(left int) int {
	for v := api.MaxCell - 3; v >= 0; v-- {
		rest := left - 4 - len(text(x(v)))
		if rest == 0 || rest >= 10 {
			return v
		}
	}
	return 0
}

// branchOf is a branch of just that size.
func branchOf(t *testing.T, size int) api.Node {
	t.Helper()
	n := branch(1)
	for i := uint32(0); ; i++ {
		left := size - len(body(n))
		if left == 0 {
			return n
		}
		if left < 14 {
			t.Fatalf("no branch of %d bytes", size)
		}
		n.Keys = append(n.Keys, keyOf(int(i), left))
		n.Kids = append(n.Kids, i+2)
	}
}

// keyOf is the i-th key of a branch that has so many bytes left.
func keyOf(i, left int) string {
	for k := 200; k >= 9; k-- {
		key := number(i) + x(k-3)
		rest := left - len(text(key)) - 4
		if rest == 0 || rest >= 30 {
			return key
		}
	}
	return number(i) + x(6)
}

// same says whether two nodes are the same (a list that is nil and an empty one are).
func same(a, b api.Node) bool {
	return a.Leaf == b.Leaf && slices.Equal(a.Cells, b.Cells) && slices.Equal(a.Keys, b.Keys) && slices.Equal(a.Kids, b.Kids)
}

// isNothing says whether a node is the zero one.
func isNothing(n api.Node) bool { return same(n, api.Node{}) }

// roomy is a node with the same lists, and marked room behind their ends.
func roomy(n api.Node) api.Node {
	return api.Node{
		Leaf:  n.Leaf,
		Cells: withRoom(n.Cells, api.Cell{Key: "room", Value: "room"}),
		Keys:  withRoom(n.Keys, "room"),
		Kids:  withRoom(n.Kids, 4711),
	}
}

func withRoom[T any](list []T, mark T) []T {
	out := slices.Clone(list)
	for range 5 {
		out = append(out, mark)
	}
	return out[:len(list)]
}

// whole is a node whose lists have what stands in the room behind their ends, too.
func whole(n api.Node) api.Node {
	return api.Node{Leaf: n.Leaf, Cells: n.Cells[:cap(n.Cells)], Keys: n.Keys[:cap(n.Keys)], Kids: n.Kids[:cap(n.Kids)]}
}

// copied is a node with lists of its own.
func copied(n api.Node) api.Node {
	return api.Node{Leaf: n.Leaf, Cells: slices.Clone(n.Cells), Keys: slices.Clone(n.Keys), Kids: slices.Clone(n.Kids)}
}

// scribble writes over all that a node's lists hold, and over the room behind their ends.
func scribble(n api.Node) {
	w := whole(n)
	for i := range w.Cells {
		w.Cells[i] = api.Cell{Key: "scribble", Value: "scribble"}
	}
	for i := range w.Keys {
		w.Keys[i] = "scribble"
	}
	for i := range w.Kids {
		w.Kids[i] = 815
	}
}

// drawnKey is a short key, often one that was drawn already, and now and then one that is long or may not be.
func drawnKey(r *rand.Rand) string {
	switch r.Intn(12) {
	case 0:
		return ""
	case 1:
		return string(rune('a'+r.Intn(26))) + x(r.Intn(api.MaxCell+3))
	case 2:
		return string([]byte{byte(r.Intn(256)), byte(r.Intn(256))})
	}
	return string(rune('a' + r.Intn(26)))
}

func drawnValue(r *rand.Rand) string {
	if r.Intn(3) == 0 {
		return x(r.Intn(api.MaxCell + 3))
	}
	return x(r.Intn(4))
}

// drawnNode is a node that mostly may be.
func drawnNode(r *rand.Rand) api.Node {
	n := api.Node{Leaf: r.Intn(2) == 0}
	keys := map[string]bool{}
	long := r.Intn(4) == 0
	for range r.Intn(14) {
		key := string(rune('a' + r.Intn(26)))
		if long {
			key += x(r.Intn(api.MaxCell))
		}
		keys[key] = true
	}
	n.Kids = append(n.Kids, 1+uint32(r.Intn(9)))
	for key := range keys {
		n.Keys = append(n.Keys, key)
		n.Kids = append(n.Kids, 1+r.Uint32()>>uint(r.Intn(32)))
	}
	slices.Sort(n.Keys)
	if n.Leaf {
		for _, key := range n.Keys {
			value := drawnValue(r)
			n.Cells = append(n.Cells, api.Cell{Key: key, Value: value[:min(len(value), api.MaxCell-len(key))]})
		}
		n.Keys, n.Kids = nil, nil
	}
	if r.Intn(6) == 0 {
		spoil(r, &n)
	}
	return n
}

// spoil turns something in a node, so that it mostly may not be any more.
func spoil(r *rand.Rand, n *api.Node) {
	switch what := r.Intn(8); {
	case what == 0:
		n.Leaf = !n.Leaf
	case what == 1:
		n.Kids = append(n.Kids, uint32(r.Intn(2)))
	case what == 2 && len(n.Kids) > 0:
		n.Kids[r.Intn(len(n.Kids))] = 0
	case what == 3 && len(n.Keys) > 0:
		n.Keys[r.Intn(len(n.Keys))] = drawnKey(r)
	case what == 4:
		n.Keys = append(n.Keys, drawnKey(r))
	case what == 5:
		n.Cells = append(n.Cells, api.Cell{Key: drawnKey(r), Value: drawnValue(r)})
	case len(n.Cells) > 0:
		n.Cells[r.Intn(len(n.Cells))] = api.Cell{Key: drawnKey(r), Value: drawnValue(r)}
	}
}
