package tree_test

import (
	"math/rand"
	"slices"
	"testing"

	"concord/api"
	"concord/tree"
)

// wantDiffer are the segments whose sums are not the same in both.
func wantDiffer(a, b *wanted) []int {
	var out []int
	for n := range 4096 {
		if a.sums[3][n] != b.sums[3][n] {
			out = append(out, n)
		}
	}
	return out
}

// differs holds Differ against the oracle, either way round.
func differs(t *testing.T, width int, a, b []entry) {
	t.Helper()
	u, v, out := built(t, width, a), built(t, width, b), wantDiffer(want(width, a), want(width, b))
	for _, p := range [][2]*tree.Tree{{u, v}, {v, u}} {
		if d, e := p[0].Differ(p[1]); !slices.Equal(d, out) || e != api.OK {
			t.Fatalf("Differ: %v, %v, want %v", d, e, out)
		}
	}
}

// P15.5: lists at their edges, each with each.
func TestDiffer(t *testing.T) {
	for _, width := range []int{1, 8, 32} {
		var trees []*tree.Tree
		var wants []*wanted
		for _, l := range lists(width) {
			trees, wants = append(trees, built(t, width, l)), append(wants, want(width, l))
		}
		for i, u := range trees {
			for j, v := range trees {
				if d, e := u.Differ(v); !slices.Equal(d, wantDiffer(wants[i], wants[j])) || e != api.OK {
					t.Fatalf("Differ of the %d. and the %d.: %v, %v", i, j, d, e)
				}
			}
		}
	}
}

// P15.5: drawn lists, of narrow sums, where clashes are, too.
func TestDrawnDiffers(t *testing.T) {
	r := rand.New(rand.NewSource(155))
	for range 400 {
		width := 1 + r.Intn(3)
		differs(t, width, drawn(r, width, 40), drawn(r, width, 40))
	}
}

// P15.5: another width is ErrSum, whatever the entries are; a nil tree is ErrNil.
func TestDifferOfUnlikeWidths(t *testing.T) {
	for a := 1; a <= 32; a++ {
		for b := 1; b <= 32; b++ {
			d, e := built(t, a, nil).Differ(built(t, b, many(3, b)))
			if a == b && (e != api.OK || len(d) != 3) || a != b && (e != api.ErrSum || len(d) != 0) {
				t.Errorf("Differ of %d and %d: %v, %v", a, b, d, e)
			}
		}
		if d, e := built(t, a, many(3, a)).Differ(nil); e != api.ErrNil || len(d) != 0 {
			t.Errorf("Differ of nil: %v, %v", d, e)
		}
	}
}

// clashes are two lists of a's entry of width 1 whose sums of a node are the same, and those beneath it unlike.
func clashes(t *testing.T, level int) (a, b []entry) {
	t.Helper()
	up := [4]uint16{0, 8, 142, 2278}
	seen := map[string]*tree.Tree{}
	for i := range 256 {
		u := built(t, 1, []entry{{Key: "a", Sum: string([]byte{byte(i)})}})
		s := sumAt(t, u, up[level])
		if o := seen[s]; o != nil && (level == 3 || sumAt(t, u, up[level+1]) != sumAt(t, o, up[level+1])) {
			a, _ = u.List(2005)
			b, _ = o.List(2005)
			return a, b
		}
		seen[s] = u
	}
	t.Fatalf("no clash on the level %d", level)
	return nil, nil
}

// P15.5: segments of unlike sums are told where the sums above them clash; where their own do, they are not.
func TestDifferBeneathClashes(t *testing.T) {
	for level := range 4 {
		a, b := clashes(t, level)
		out := []int{2005}
		if level == 3 {
			out = nil
		}
		u, v := built(t, 1, a), built(t, 1, b)
		if d, e := u.Differ(v); !slices.Equal(d, out) || e != api.OK || u.Root() != v.Root() {
			t.Errorf("a clash on the level %d: %v, %v", level, d, e)
		}
	}
}

// R3: two answers of Differ share no memory.
func TestDifferAnew(t *testing.T) {
	u, v := built(t, 4, many(300, 4)), built(t, 4, nil)
	one, _ := u.Differ(v)
	other, _ := u.Differ(v)
	then := slices.Clone(other)
	scribble(one, -7)
	if again, _ := u.Differ(v); !slices.Equal(other, then) || !slices.Equal(again, then) || len(then) < 200 {
		t.Errorf("%v, %v", other, again)
	}
}
