package tree_test

import (
	"slices"
	"testing"

	"concord/api"
	"concord/tree"
)

// P15.1: the chapter's examples of Node, Level and Index.
func TestExampleNode(t *testing.T) {
	for _, c := range []struct {
		level, index int
		node         uint16
		e            api.Errno
	}{{0, 0, 0, 0}, {3, 2005, 2278, 0}, {2, 125, 142, 0}, {1, 7, 8, 0}, {1, 16, 0, api.ErrArg}, {4, 0, 0, api.ErrArg}, {-1, 0, 0, api.ErrArg}} {
		if n, e := tree.Node(c.level, c.index); n != c.node || e != c.e {
			t.Errorf("Node(%d, %d): %d, %v", c.level, c.index, n, e)
		}
	}
	if tree.Level(2278) != 3 || tree.Index(2278) != 2005 || tree.Level(4369) != -1 || tree.Index(4369) != 0 {
		t.Error("Level or Index")
	}
}

// P15.1: those of Parent and Kid.
func TestExampleParent(t *testing.T) {
	for _, c := range []struct {
		node, up uint16
		ok       bool
	}{{2278, 142, true}, {142, 8, true}, {8, 0, true}, {0, 0, false}, {5000, 0, false}} {
		if up, ok := tree.Parent(c.node); up != c.up || ok != c.ok {
			t.Errorf("Parent(%d): %d, %v", c.node, up, ok)
		}
	}
	for _, c := range []struct {
		node uint16
		i    int
		kid  uint16
		ok   bool
	}{{0, 7, 8, true}, {8, 13, 142, true}, {142, 5, 2278, true}, {142, 16, 0, false}, {2278, 0, 0, false}} {
		if kid, ok := tree.Kid(c.node, c.i); kid != c.kid || ok != c.ok {
			t.Errorf("Kid(%d, %d): %d, %v", c.node, c.i, kid, ok)
		}
	}
}

// P15.2, P15.3, P15.6: the tree without entries.
func TestExampleOfNone(t *testing.T) {
	u := built(t, 1, nil)
	if u.Root() != "" || sumAt(t, u, 2278) != "" || u.Len() != 0 || len(slices.Collect(u.Forms())) != 0 {
		t.Error("the tree of nothing")
	}
}

// P15.3, P15.6: the tree of a.
func TestExampleOfOne(t *testing.T) {
	u := built(t, 1, list("a:x"))
	for n, want := range map[int][]entry{2005: list("a:x"), 2004: nil} {
		if l, e := u.List(n); !slices.Equal(l, want) || e != api.OK {
			t.Errorf("List(%d): %v, %v", n, l, e)
		}
	}
	forms := []string{
		"\x4e\x00\x00\x00\x07\x01" + sumAt(t, u, 8), "\x4e\x01\x00\x07\x0d\x01" + sumAt(t, u, 142),
		"\x4e\x02\x00\x7d\x05\x01" + sumAt(t, u, 2278), "\x53\x07\xd5\x01\x01\x61\x01\x78",
	}
	if got := slices.Collect(u.Forms()); !slices.Equal(got, forms) || u.Len() != 1 {
		t.Errorf("Len %d, Forms: % x", u.Len(), got)
	}
	kids := make([]string, 16)
	kids[13] = sumAt(t, u, 142)
	if got, e := u.Kids(8); !slices.Equal(got, kids) || e != api.OK || len(kids[13]) != 1 {
		t.Errorf("Kids(8): %x, %v", got, e)
	}
}

// P15.2: what Build refuses.
func TestExampleRefused(t *testing.T) {
	for _, c := range []struct {
		width int
		l     string
		e     api.Errno
	}{{1, "a:x a:y", api.ErrEntry}, {1, "b:x a:x", api.ErrEntry}, {1, "a:xx", api.ErrEntry}, {0, "", api.ErrArg}, {33, "", api.ErrArg}} {
		if u, e := tree.Build(c.width, list(c.l)); u != nil || e != c.e {
			t.Errorf("Build(%d, %s): %v, %v", c.width, c.l, u, e)
		}
	}
}

// P15.4: those of With.
func TestExampleWith(t *testing.T) {
	u := built(t, 1, list("a:x"))
	want(1, nil).is(t, laid(t, u, 2005, nil))
	if v, e := u.With(2004, list("a:x")); v != nil || e != api.ErrEntry {
		t.Errorf("With(2004, a): %v, %v", v, e)
	}
	if v, e := u.With(4096, nil); v != nil || e != api.ErrArg {
		t.Errorf("With(4096): %v, %v", v, e)
	}
}

// P15.5: those of Differ.
func TestExampleDiffer(t *testing.T) {
	u := built(t, 1, list("a:x"))
	for _, c := range []struct {
		o    *tree.Tree
		want []int
		e    api.Errno
	}{{built(t, 1, nil), []int{2005}, 0}, {u, nil, 0}, {built(t, 2, nil), nil, api.ErrSum}, {nil, nil, api.ErrNil}} {
		if d, e := u.Differ(c.o); !slices.Equal(d, c.want) || e != c.e {
			t.Errorf("Differ: %v, %v, want %v, %v", d, e, c.want, c.e)
		}
	}
}
