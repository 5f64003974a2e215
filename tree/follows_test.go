package tree_test

import (
	"crypto/sha256"
	"math/rand"
	"slices"
	"testing"

	"concord/api"
	"concord/tree"
)

// comeTo are the segments that are come to from the root on, in both trees, by the children of nodes whose sums are unlike.
func comeTo(t *testing.T, a, b *tree.Tree) []int {
	t.Helper()
	var out []int
	row := []uint16{0}
	for len(row) > 0 {
		node := row[0]
		row = row[1:]
		if sumAt(t, a, node) == sumAt(t, b, node) {
			continue
		}
		if tree.Level(node) == 3 {
			out = append(out, tree.Index(node))
			continue
		}
		for i := range 16 {
			kid, _ := tree.Kid(node, i)
			row = append(row, kid)
		}
	}
	return out
}

// unlike are the segments at which the lists are unlike.
func unlike(t *testing.T, a, b *tree.Tree) []int {
	t.Helper()
	var out []int
	for n := range 4096 {
		x, e := a.List(n)
		y, f := b.List(n)
		if e != api.OK || f != api.OK {
			t.Fatalf("List(%d): %v, %v", n, e, f)
		}
		if !slices.Equal(x, y) {
			out = append(out, n)
		}
	}
	return out
}

// clash tells whether there are, among the Forms of trees, two unlike texts with one sum.
func clash(width int, trees ...*tree.Tree) bool {
	by := map[string]string{}
	for _, u := range trees {
		for form := range u.Forms() {
			sum := sha256.Sum256([]byte(form))
			if other, is := by[string(sum[:width])]; is && other != form {
				return true
			}
			by[string(sum[:width])] = form
		}
	}
	return false
}

// tells holds P15.7 of two trees of a width, and answers whether the lists were found.
func tells(t *testing.T, width int, a, b *tree.Tree) bool {
	t.Helper()
	found := slices.Equal(comeTo(t, a, b), unlike(t, a, b))
	same := a.Root() != b.Root() || slices.Equal(eachOf(a), eachOf(b))
	if !(found && same) && !clash(width, a, b) {
		t.Fatalf("come to %v, unlike %v, and no clash", comeTo(t, a, b), unlike(t, a, b))
	}
	return found
}

// P15.7: drawn trees of all widths, of which narrow ones clash.
func TestTreeTellsOrClashes(t *testing.T) {
	r := rand.New(rand.NewSource(157))
	met := map[bool]int{}
	for i := range 600 {
		width := 1
		if i%3 == 0 {
			width = 1 + r.Intn(32)
		}
		a := built(t, width, drawn(r, width, 12))
		b := a
		for range r.Intn(6) {
			n := r.Intn(4096)
			if r.Intn(2) == 0 {
				n = 512 + r.Intn(16)
			}
			b = laid(t, b, n, drawnOf(r, width, n))
		}
		met[tells(t, width, a, b)]++
		met[tells(t, width, b, a)]++
	}
	if met[true] < 500 || met[false] < 10 {
		t.Errorf("met %v", met)
	}
}

// P15.7: of a clash on each level; one that is wide enough finds the same lists.
func TestTreeTellsBeneathClashes(t *testing.T) {
	for level := range 4 {
		x, y := clashes(t, level)
		a, b := built(t, 1, x), built(t, 1, y)
		if tells(t, 1, a, b) {
			t.Errorf("a clash on the level %d was gone through", level)
		}
	}
	wide := func(word string) *tree.Tree { return built(t, 16, []entry{{Key: "a", Sum: text(16, word)}}) }
	if !tells(t, 16, wide("x"), wide("y")) || !tells(t, 16, wide("x"), built(t, 16, nil)) {
		t.Error("a wide tree was not gone through")
	}
}

// P15.7: like roots, of unlike ways of coming to them, are of like entries.
func TestLikeRoots(t *testing.T) {
	roots := map[string][]placed{}
	r := rand.New(rand.NewSource(158))
	for range 500 {
		u := built(t, 16, drawn(r, 16, 4))
		if other, is := roots[u.Root()]; is && !slices.Equal(other, eachOf(u)) {
			t.Fatalf("%v and %v have one root", other, eachOf(u))
		}
		roots[u.Root()] = eachOf(u)
	}
}

// P15.8: Build of what Each tells, in the order of keys, is the tree.
func TestBuildOfEach(t *testing.T) {
	r := rand.New(rand.NewSource(159))
	for i := range 200 {
		width := 1 + i%32
		u := built(t, width, drawn(r, width, 30))
		var l []entry
		for _, e := range u.Each() {
			l = append(l, e)
		}
		slices.SortFunc(l, byKey)
		if !like(t, u, built(t, width, l)) {
			t.Fatalf("the tree of %v", l)
		}
	}
}

// P15.8: With of the own list, With there and back, and where a tree and With of it differ.
func TestWithThereAndBack(t *testing.T) {
	r := rand.New(rand.NewSource(160))
	met := map[int]int{}
	for i := range 200 {
		width := 1 + i%32
		u := built(t, width, drawn(r, width, 30))
		n := r.Intn(4096)
		if i%2 == 0 {
			n = 512 + r.Intn(16)
		}
		own, _ := u.List(n)
		by := drawnOf(r, width, n)
		if i%10 == 0 {
			by = own
		}
		there := laid(t, u, n, by)
		if !like(t, u, laid(t, u, n, own)) || !like(t, u, laid(t, there, n, own)) || !like(t, there, laid(t, there, n, by)) {
			t.Fatalf("With(%d, %v), there and back", n, by)
		}
		d, e := u.Differ(there)
		if e != api.OK || len(d) > 1 || len(d) == 1 && (d[0] != n || slices.Equal(own, by)) {
			t.Fatalf("With(%d, %v) differs in %v, %v", n, by, d, e)
		}
		met[len(d)]++
	}
	if met[0] < 10 || met[1] < 100 {
		t.Errorf("met %v", met)
	}
}

// P15.8: in which order segments are laid down does not matter: the tree is that of Build.
func TestWithInAnyOrder(t *testing.T) {
	r := rand.New(rand.NewSource(161))
	for range 40 {
		l := drawn(r, 3, 30)
		whole := built(t, 3, l)
		u := built(t, 3, nil)
		for _, n := range r.Perm(4096) {
			if by, _ := whole.List(n); len(by) > 0 {
				u = laid(t, u, n, by)
			}
		}
		if !like(t, u, whole) {
			t.Fatalf("of %v", l)
		}
	}
}
