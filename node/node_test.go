package node_test

import (
	"fmt"
	"math/rand"
	"slices"
	"testing"

	"concord/api"
	"concord/node"
)

// checks are nodes at the edges that the chapter names, with what Check answers.
func checks(t *testing.T) map[string]struct {
	n    api.Node
	want api.Errno
} {
	cell := func(key, value int) api.Node { return leaf(x(key), x(value)) }
	type c = struct {
		n    api.Node
		want api.Errno
	}
	return map[string]c{
		"a leaf without cells":                     {leaf(), api.OK},
		"a leaf":                                   {leaf("a", "1", "c", "3"), api.OK},
		"a branch without keys":                    {branch(7), api.OK},
		"a branch":                                 {branch(7, "m", "t"), api.OK},
		"the greatest kid":                         {api.Node{Kids: []uint32{1<<32 - 1}}, api.OK},
		"kids that are alike":                      {api.Node{Keys: []string{"m"}, Kids: []uint32{7, 7}}, api.OK},
		"kids that fall":                           {api.Node{Keys: []string{"m"}, Kids: []uint32{7, 1}}, api.OK},
		"a leaf with lists that are empty":         {api.Node{Leaf: true, Cells: []api.Cell{}, Keys: []string{}, Kids: []uint32{}}, api.OK},
		"a branch with cells that are none":        {api.Node{Kids: []uint32{7}, Cells: []api.Cell{}, Keys: []string{}}, api.OK},
		"the zero node":                            {api.Node{}, api.ErrNode},
		"a leaf with a kid":                        {api.Node{Leaf: true, Kids: []uint32{1}}, api.ErrNode},
		"a leaf with a key":                        {api.Node{Leaf: true, Keys: []string{"a"}}, api.ErrNode},
		"a leaf with what a branch has":            {api.Node{Leaf: true, Keys: []string{"m"}, Kids: []uint32{7, 8}}, api.ErrNode},
		"a branch with a cell":                     {api.Node{Cells: []api.Cell{{Key: "a"}}, Kids: []uint32{7}}, api.ErrNode},
		"cells alone, but no leaf":                 {api.Node{Cells: []api.Cell{{Key: "a"}}}, api.ErrNode},
		"as many kids as keys":                     {api.Node{Keys: []string{"m"}, Kids: []uint32{7}}, api.ErrNode},
		"two kids more than keys":                  {api.Node{Keys: []string{"m"}, Kids: []uint32{7, 8, 9}}, api.ErrNode},
		"two kids and no key":                      {api.Node{Kids: []uint32{7, 8}}, api.ErrNode},
		"the kid 0":                                {api.Node{Kids: []uint32{0}}, api.ErrNode},
		"the last kid 0":                           {api.Node{Keys: []string{"m"}, Kids: []uint32{7, 0}}, api.ErrNode},
		"an empty key of a cell":                   {leaf("", "1"), api.ErrBig},
		"an empty key of a branch":                 {branch(7, ""), api.ErrBig},
		"a cell of 320 bytes":                      {cell(1, 319), api.OK},
		"a cell of 320 bytes of key":               {cell(320, 0), api.OK},
		"a cell of 321 bytes":                      {cell(1, 320), api.ErrBig},
		"a cell of 321 bytes of key":               {cell(321, 0), api.ErrBig},
		"a key of 320 bytes":                       {branch(7, x(320)), api.OK},
		"a key of 321 bytes":                       {branch(7, x(321)), api.ErrBig},
		"a value alone of 400 bytes":               {leaf("", x(400)), api.ErrBig},
		"cells that fall":                          {leaf("b", "", "a", ""), api.ErrOrder},
		"cells of one key":                         {leaf("a", "1", "a", "2"), api.ErrOrder},
		"the last cells fall":                      {leaf("a", "", "b", "", "d", "", "c", ""), api.ErrOrder},
		"a beginning behind what goes on":          {leaf("ab", "", "a", ""), api.ErrOrder},
		"a beginning ahead of what goes on":        {leaf("a", "", "a\x00", ""), api.OK},
		"bytes above 127":                          {leaf("\x7f", "", "\x80", "", "\xff", ""), api.OK},
		"bytes above 127 that fall":                {leaf("\x80", "", "\x7f", ""), api.ErrOrder},
		"keys that fall":                           {branch(7, "t", "m"), api.ErrOrder},
		"keys that are alike":                      {branch(7, "m", "m"), api.ErrOrder},
		"the last keys fall":                       {branch(7, "a", "b", "d", "c"), api.ErrOrder},
		"a leaf of 1992 bytes":                     {leafOf(t, 1992), api.OK},
		"a leaf of 1993 bytes":                     {leafOf(t, 1993), api.ErrBig},
		"a branch of 1992 bytes":                   {branchOf(t, 1992), api.OK},
		"a branch of 1993 bytes":                   {branchOf(t, 1993), api.ErrBig},
		"a kid 0, ahead of a cell too big":         {api.Node{Keys: []string{""}, Kids: []uint32{7, 0}}, api.ErrNode},
		"no kind, ahead of all else":               {api.Node{Leaf: true, Kids: []uint32{7}, Cells: []api.Cell{{Key: "b"}, {Key: ""}, {Key: "a"}}}, api.ErrNode},
		"a last cell too big, behind ones falling": {leaf("b", "", "a", "", "z", x(320)), api.ErrBig},
		"a last key empty, behind ones falling":    {branch(7, "t", "m", ""), api.ErrBig},
	}
}

// P8.1: Check is OK, if the node may be, and else tells the first error of the whole node; Size is that of the body, and 0 of a node that may not be.
func TestCheck(t *testing.T) {
	for what, c := range checks(t) {
		if e := node.Check(c.n); e != c.want {
			t.Errorf("%s: Check is %v, want %v", what, e, c.want)
		}
		size := 0
		if c.want == api.OK {
			size = len(body(c.n))
		}
		if got := node.Size(c.n); got != size {
			t.Errorf("%s: Size is %d, want %d", what, got, size)
		}
		if wantCheck(c.n) != c.want {
			t.Errorf("%s: the oracle answers %v", what, wantCheck(c.n))
		}
	}
}

// P8.1: keys that do not rise are told ahead of a size that is too great.
func TestOrderAheadOfSize(t *testing.T) {
	l, b := leafOf(t, 3000), branchOf(t, 3000)
	if e, f := node.Check(l), node.Check(b); e != api.ErrBig || f != api.ErrBig {
		t.Errorf("too great: %v, %v", e, f)
	}
	l.Cells[5].Key = l.Cells[4].Key
	b.Keys[5] = b.Keys[4]
	if e, f := node.Check(l), node.Check(b); e != api.ErrOrder || f != api.ErrOrder {
		t.Errorf("too great, with keys alike: %v, %v", e, f)
	}
}

// shortest are so many keys, rising, of as few bytes as can be.
func shortest(many int) []string {
	var keys []string
	for i := range many {
		if i < 256 {
			keys = append(keys, string([]byte{byte(i)}))
		} else {
			keys = append(keys, two(i-256))
		}
	}
	slices.Sort(keys)
	return keys
}

// P8.1: as many cells and keys as a node may have, and one more, and a great many more.
func TestMostItems(t *testing.T) {
	for many, want := range map[int]api.Errno{561: api.OK, 562: api.ErrBig, 1 << 16: api.ErrBig} {
		l := leaf()
		for _, key := range shortest(many) {
			l.Cells = append(l.Cells, api.Cell{Key: key})
		}
		if e := node.Check(l); e != want {
			t.Errorf("%d cells: %v, want %v", many, e, want)
		}
	}
	for many, want := range map[int]api.Errno{320: api.OK, 321: api.ErrBig, 1 << 16: api.ErrBig} {
		if e := node.Check(branch(1, shortest(many)...)); e != want {
			t.Errorf("%d keys: %v, want %v", many, e, want)
		}
	}
}

// P8.1: sizes about the length from which on a text's length takes two bytes.
func TestSizesOfTexts(t *testing.T) {
	for key := 1; key <= api.MaxCell; key++ {
		for _, n := range []api.Node{leaf(x(key), ""), leaf("a", x(key-1)), branch(9, x(key))} {
			if got := node.Size(n); got != len(body(n)) {
				t.Errorf("%d bytes: Size %d, want %d", key, got, len(body(n)))
			}
		}
	}
}

// P8.1: drawn nodes, held against the oracle.
func TestDrawnChecks(t *testing.T) {
	r := rand.New(rand.NewSource(81))
	seen := map[api.Errno]int{}
	for range 30000 {
		n := drawnNode(r)
		want := wantCheck(n)
		seen[want]++
		size := 0
		if want == api.OK {
			size = len(body(n))
		}
		if e, s := node.Check(n), node.Size(n); e != want || s != size {
			t.Fatalf("%+v: %v, %d, want %v, %d", n, e, s, want, size)
		}
	}
	for _, e := range []api.Errno{api.OK, api.ErrNode, api.ErrBig, api.ErrOrder} {
		if seen[e] < 100 {
			t.Errorf("only %d nodes of %v", seen[e], e)
		}
	}
}

// R3: no call changes a list that is handed in, or the room behind its end, nor keeps it, and no answer shares memory with it; the halves of a Split share none with one another.
func TestMemory(t *testing.T) {
	l, b := leaf("a", "1", "c", "3", "e", "5", "g", "7"), branch(7, "c", "g", "m")
	further := leaf("p", "1", "q", "2")
	behind := branch(70, "p")
	calls := map[string]func(l, b, further, behind api.Node) []api.Node{
		"Put, a further one": func(l, _, _, _ api.Node) []api.Node { return one(node.Put(l, "d", "4")) },
		"Put, the last":      func(l, _, _, _ api.Node) []api.Node { return one(node.Put(l, "z", "4")) },
		"Put over":           func(l, _, _, _ api.Node) []api.Node { return one(node.Put(l, "c", "4")) },
		"Put, refused":       func(l, _, _, _ api.Node) []api.Node { return one(node.Put(l, "d", x(320))) },
		"Take":               func(l, _, _, _ api.Node) []api.Node { return taken(node.Take(l, "c")) },
		"Take, the last":     func(l, _, _, _ api.Node) []api.Node { return taken(node.Take(l, "g")) },
		"Grow":               func(_, b, _, _ api.Node) []api.Node { return one(node.Grow(b, 1, "d", 99)) },
		"Grow, the last":     func(_, b, _, _ api.Node) []api.Node { return one(node.Grow(b, 3, "z", 99)) },
		"Grow, refused":      func(_, b, _, _ api.Node) []api.Node { return one(node.Grow(b, 0, "z", 99)) },
		"Shrink":             func(_, b, _, _ api.Node) []api.Node { return one(node.Shrink(b, 1)) },
		"Turn":               func(_, b, _, _ api.Node) []api.Node { return one(node.Turn(b, 1, "h")) },
		"Turn, refused":      func(_, b, _, _ api.Node) []api.Node { return one(node.Turn(b, 1, "a")) },
		"Split, leaf":        func(l, _, _, _ api.Node) []api.Node { return parts(node.Split(l)) },
		"Split, branch":      func(_, b, _, _ api.Node) []api.Node { return parts(node.Split(b)) },
		"Join, leaves":       func(l, _, f, _ api.Node) []api.Node { return one(node.Join(l, "k", f)) },
		"Join, empty right":  func(l, _, _, _ api.Node) []api.Node { return one(node.Join(l, "k", leaf())) },
		"Join, empty left":   func(l, _, _, _ api.Node) []api.Node { return one(node.Join(leaf(), "a", l)) },
		"Join, branches":     func(_, b, _, h api.Node) []api.Node { return one(node.Join(b, "n", h)) },
		"Join, refused":      func(_, b, _, h api.Node) []api.Node { return one(node.Join(b, "q", h)) },
		"Find, Kid": func(l, b, _, _ api.Node) []api.Node {
			node.Find(l, "c")
			node.Kid(b, "c")
			return nil
		},
		"Encode, Check, Size": func(l, b, _, _ api.Node) []api.Node {
			_, _ = node.Encode(l)
			node.Check(b)
			node.Size(b)
			return nil
		},
	}
	for what, call := range calls {
		given := []api.Node{roomy(l), roomy(b), roomy(further), roomy(behind)}
		var then []api.Node
		for _, g := range given {
			then = append(then, copied(whole(g)))
		}
		answers := call(given[0], given[1], given[2], given[3])
		wantUntouched(t, what, given, then, answers)
	}
}

// wantUntouched scribbles over one answer after the other, and looks whether anything else is changed.
func wantUntouched(t *testing.T, what string, given, then, answers []api.Node) {
	t.Helper()
	held := func(when string) {
		t.Helper()
		for i, g := range given {
			if !same(whole(g), then[i]) {
				t.Errorf("%s: what was handed in is changed %s: %+v, want %+v", what, when, whole(g), then[i])
			}
		}
	}
	held("by the call")
	for i, a := range answers {
		var others []api.Node
		for _, o := range answers[i+1:] {
			others = append(others, copied(whole(o)))
		}
		scribble(a)
		held(fmt.Sprint("by writing to answer ", i))
		for j, o := range answers[i+1:] {
			if !same(whole(o), others[j]) {
				t.Errorf("%s: writing to answer %d changes answer %d", what, i, i+1+j)
			}
		}
	}
}

func one(n api.Node, _ api.Errno) []api.Node { return []api.Node{n} }

func taken(n api.Node, _ bool) []api.Node { return []api.Node{n} }

func parts(l api.Node, _ string, r api.Node, _ api.Errno) []api.Node { return []api.Node{l, r} }
