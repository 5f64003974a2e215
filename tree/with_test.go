package tree_test

import (
	"math"
	"math/rand"
	"slices"
	"testing"

	"concord/api"
	"concord/tree"
)

// replaced are entries, those of a segment replaced by others.
func replaced(l []entry, n int, by []entry) []entry {
	rest := slices.DeleteFunc(slices.Clone(l), func(e entry) bool { return segmentOf(e.Key) == n })
	rest = append(rest, by...)
	slices.SortFunc(rest, byKey)
	return rest
}

// P15.4: segments at their edges replaced by more, by fewer, by other sums, by nothing; the old tree stays.
func TestWith(t *testing.T) {
	for _, width := range []int{1, 32} {
		for _, l := range [][]entry{nil, ofSegments(width, 2005), ofSegments(width, 0, 1, 4095), many(5000, width)} {
			u, was := built(t, width, l), want(width, l)
			for _, n := range []int{0, 1, 15, 16, 255, 256, 2005, 4094, 4095} {
				full := ofSegments(width, n)
				other := slices.Clone(full)
				other[0].Sum = text(width, "another")
				for _, by := range [][]entry{nil, {}, full, full[1:], full[:1], other} {
					want(width, replaced(l, n, by)).is(t, laid(t, u, n, by))
				}
			}
			was.is(t, u)
		}
	}
}

// P15.4: one With behind the other, of drawn segments.
func TestWithBehindWith(t *testing.T) {
	r := rand.New(rand.NewSource(154))
	for range 20 {
		width := 1 + r.Intn(32)
		l := drawn(r, width, 20)
		u := built(t, width, l)
		for range 20 {
			n := r.Intn(4096)
			if len(l) > 0 && r.Intn(2) == 0 {
				n = segmentOf(l[r.Intn(len(l))].Key)
			}
			by := drawnOf(r, width, n)
			u, l = laid(t, u, n, by), replaced(l, n, by)
			want(width, l).is(t, u)
		}
	}
}

// P15.4: a segment that is none is told ahead of entries that may not be.
func TestWithOfNoSegment(t *testing.T) {
	u := built(t, 1, list("a:x"))
	for _, n := range []int{-1, 4096, 4097, -4096, 6101, 65536, 65536 + 2005, 1<<32 + 2005, math.MaxInt, math.MinInt} {
		for _, l := range append(noLists(), nil, list("a:x")) {
			if v, e := u.With(n, l); v != nil || e != api.ErrArg {
				t.Fatalf("With(%d, ..): %v", n, e)
			}
		}
	}
}

// P15.4: entries that may not be, of another width, or of another segment, at any place; the tree stays.
func TestWithOfNoList(t *testing.T) {
	l := many(3000, 1)
	u, was := built(t, 1, l), want(1, l)
	full := ofSegments(1, 2005)
	strange := ofSegments(1, 2004, 2005)
	turned := slices.Clone(full)
	slices.Reverse(turned)
	twice := []entry{full[0], full[0]}
	wrong := append(noLists(), turned, twice, strange, ofSegments(1, 2004), ofSegments(2, 2005), append(slices.Clone(full[:1]), entry{Key: "zz", Sum: "x"}), []entry{{Key: full[0].Key}})
	for i, by := range wrong {
		if v, e := u.With(2005, by); v != nil || e != api.ErrEntry {
			t.Errorf("With(2005, the %d.): %v", i, e)
		}
	}
	was.is(t, u)
}

// R3: what is handed to With is not changed and not kept; what trees have in common is not seen by what is handed out.
func TestWithKeepsNothing(t *testing.T) {
	l := many(3000, 4)
	u, was := built(t, 4, l), want(4, l)
	by := roomy(ofSegments(4, 2005))
	then := slices.Clone(whole(by))
	v, now := laid(t, u, 2005, by), want(4, replaced(l, 2005, by))
	if !slices.Equal(whole(by), then) {
		t.Fatal("With wrote into its argument")
	}
	scribble(by, entry{Key: "scribbled", Sum: "scribbled"})
	for _, x := range []*tree.Tree{u, v} {
		for n := range 4096 {
			told, _ := x.List(n)
			scribble(told, entry{Key: "scribbled", Sum: "scribbled"})
		}
		kids, _ := x.Kids(0)
		scribble(kids, "scribbled")
	}
	was.is(t, u)
	now.is(t, v)
}
