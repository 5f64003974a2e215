package tree_test

import (
	"math"
	"math/rand"
	"slices"
	"testing"

	"concord/api"
	"concord/tree"
)

// P15.2, P15.3, P15.6: lists at their edges, of several widths, told by all calls.
func TestBuild(t *testing.T) {
	for _, width := range []int{1, 2, 8, 31, 32} {
		for _, l := range lists(width) {
			want(width, l).is(t, built(t, width, l))
		}
	}
}

// P15.2, P15.3, P15.6: every width.
func TestEveryWidth(t *testing.T) {
	for width := 1; width <= 32; width++ {
		l := many(200, width)
		want(width, l).is(t, built(t, width, l))
	}
}

// P15.2, P15.3, P15.6: drawn lists.
func TestDrawnTrees(t *testing.T) {
	r := rand.New(rand.NewSource(152))
	for range 300 {
		width := 1 + r.Intn(32)
		l := drawn(r, width, 40)
		want(width, l).is(t, built(t, width, l))
	}
}

// P15.2: a width that is none is told ahead of entries that may not be.
func TestBuildOfNoWidth(t *testing.T) {
	for _, width := range []int{0, -1, 33, 34, 256, 257, 65537, math.MaxInt, math.MinInt} {
		for _, l := range append(noLists(), nil, list("a:x"), many(100, 32)) {
			if u, e := tree.Build(width, l); u != nil || e != api.ErrArg {
				t.Fatalf("Build(%d, ..): %v", width, e)
			}
		}
	}
}

// P15.2: entries that may not be, of no width or of another one.
func TestBuildOfNoList(t *testing.T) {
	for _, width := range []int{1, 2, 8, 32} {
		for i, l := range append(noLists(), many(3, 3), many(3, 31), list("a:xxx"), append(many(3, width), entry{Key: "z", Sum: "xyz"})) {
			if u, e := tree.Build(width, l); u != nil || e != api.ErrEntry {
				t.Fatalf("Build(%d, the %d.): %v", width, i, e)
			}
		}
	}
}

// P15.3: nodes and segments that there are not.
func TestNoPlaces(t *testing.T) {
	for _, u := range []*tree.Tree{built(t, 1, nil), built(t, 4, many(5000, 4))} {
		for node := 4369; node <= math.MaxUint16; node++ {
			if s, e := u.Sum(uint16(node)); s != "" || e != api.ErrArg {
				t.Fatalf("Sum(%d): %x, %v", node, s, e)
			}
		}
		for node := 273; node <= math.MaxUint16; node++ {
			if s, e := u.Kids(uint16(node)); len(s) != 0 || e != api.ErrArg {
				t.Fatalf("Kids(%d): %x, %v", node, s, e)
			}
		}
		for _, n := range []int{-1, 4096, 4097, -4096, 65535, 65536, 1<<32 + 5, math.MaxInt, math.MinInt} {
			if l, e := u.List(n); len(l) != 0 || e != api.ErrArg {
				t.Errorf("List(%d): %v, %v", n, l, e)
			}
		}
	}
}

// P15.3: a node without entries beneath it has sixteen empty sums as its children's.
func TestKidsOfNone(t *testing.T) {
	u := built(t, 3, nil)
	for node := range uint16(273) {
		if s, e := u.Kids(node); !slices.Equal(s, make([]string, 16)) || e != api.OK {
			t.Fatalf("Kids(%d): %q, %v", node, s, e)
		}
	}
}

// R1: a nil tree answers ErrNil, ahead of what is wrong with the arguments, and zeros.
func TestNilTree(t *testing.T) {
	var u *tree.Tree
	if u.Width() != 0 || u.Len() != 0 || u.Root() != "" || len(eachOf(u)) != 0 || len(slices.Collect(u.Forms())) != 0 {
		t.Error("of no tree something is told")
	}
	for _, n := range []int{0, 5, -1, 272, 273, 4368, 4369, math.MaxInt, math.MinInt} {
		if s, e := u.Sum(uint16(n)); s != "" || e != api.ErrNil {
			t.Errorf("Sum(%d): %v", n, e)
		}
		if s, e := u.Kids(uint16(n)); len(s) != 0 || e != api.ErrNil {
			t.Errorf("Kids(%d): %v", n, e)
		}
		if l, e := u.List(n); len(l) != 0 || e != api.ErrNil {
			t.Errorf("List(%d): %v", n, e)
		}
		if v, e := u.With(n, list("b:x a:y")); v != nil || e != api.ErrNil {
			t.Errorf("With(%d): %v", n, e)
		}
	}
	for _, o := range []*tree.Tree{nil, built(t, 1, nil)} {
		if d, e := u.Differ(o); len(d) != 0 || e != api.ErrNil {
			t.Errorf("Differ: %v, %v", d, e)
		}
	}
}

// R1: a tree that came from no call of the package does no harm.
func TestMadeTree(t *testing.T) {
	u := &tree.Tree{}
	u.Len()
	u.Sum(0)
	u.Kids(272)
	u.List(4095)
	if len(eachOf(u)) != 0 || len(slices.Collect(u.Forms())) != 0 {
		t.Error("of a tree without entries something is told")
	}
	for _, l := range [][]entry{nil, list("a:x"), list("a:")} {
		u.With(2005, l)
	}
	for _, o := range []*tree.Tree{nil, u, built(t, 1, list("a:x"))} {
		u.Differ(o)
		o.Differ(u)
	}
}

// R3: what is handed to Build is not changed and not kept.
func TestBuildKeepsNothing(t *testing.T) {
	l := roomy(many(5000, 4))
	was := slices.Clone(whole(l))
	u, w := built(t, 4, l), want(4, l)
	if !slices.Equal(whole(l), was) {
		t.Fatal("Build wrote into its argument")
	}
	scribble(l, entry{Key: "scribbled", Sum: "scribbled"})
	w.is(t, u)
}

// R3: what is handed out is new memory, with its spare room.
func TestToldIsNewMemory(t *testing.T) {
	l := many(20000, 4)
	u, w := built(t, 4, l), want(4, l)
	for n := range 4096 {
		one, _ := u.List(n)
		other, _ := u.List(n)
		scribble(one, entry{Key: "scribbled", Sum: "scribbled"})
		if !slices.Equal(other, w.lists[n]) {
			t.Fatalf("two answers of List(%d) share memory", n)
		}
		scribble(other, entry{Key: "scribbled", Sum: "scribbled"})
	}
	for node := range uint16(273) {
		one, _ := u.Kids(node)
		other, _ := u.Kids(node)
		then := slices.Clone(other)
		scribble(one, "scribbled")
		if !slices.Equal(other, then) {
			t.Fatalf("two answers of Kids(%d) share memory", node)
		}
		scribble(other, "scribbled")
	}
	w.is(t, u)
}

// R2: trees do not see one another, and what is told once is told again.
func TestTreesApart(t *testing.T) {
	a, b := built(t, 4, many(300, 4)), built(t, 5, many(4000, 5))
	wantA, wantB := want(4, many(300, 4)), want(5, many(4000, 5))
	for range 2 {
		wantA.is(t, a)
		wantB.is(t, b)
	}
}

// P15.3: entries without number.
func TestGreatTree(t *testing.T) {
	l := many(200000, 8)
	want(8, l).is(t, built(t, 8, l))
}
