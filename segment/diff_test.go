package segment_test

import (
	"math/rand"
	"slices"
	"testing"

	"concord/api"
	"concord/segment"
)

// wantDiffAs holds Diff against the oracle.
func wantDiffAs(t *testing.T, a, b []api.Entry) {
	t.Helper()
	want, wantE := wantDiff(a, b)
	if d, e := segment.Diff(a, b); !slices.Equal(d, want) || e != wantE {
		t.Errorf("Diff(%v, %v) is %v, %v, want %v, %v", a, b, d, e, want, wantE)
	}
}

// P14.4: all small lists two by two, of one width and of unlike ones.
func TestDiffOfSmall(t *testing.T) {
	all := append(small("x", "y"), small("xx", "yy")...)
	for _, a := range all {
		for _, b := range all {
			wantDiffAs(t, a, b)
		}
	}
}

// P14.4: lists at their edges, each with each.
func TestDiffOfLists(t *testing.T) {
	for _, a := range lists() {
		for _, b := range lists()[:40] {
			wantDiffAs(t, a, b)
		}
	}
}

// P14.4: lists of unlike widths differ at every key, those that both have too.
func TestDiffOfUnlikeWidths(t *testing.T) {
	a, b := many(100, 1), many(120, 2)
	d, e := segment.Diff(a, b)
	if len(d) != 120 || e != api.OK {
		t.Fatalf("Diff: %d, %v", len(d), e)
	}
	for i, x := range d {
		want := api.Diff{Key: b[i].Key, Right: b[i].Sum}
		if i < 100 {
			want.Left = a[i].Sum
		}
		if x != want {
			t.Errorf("the %d.: %v, want %v", i, x, want)
		}
	}
}

// P14.4: what is no list is refused on either side, and beside itself.
func TestDiffErrors(t *testing.T) {
	for i, l := range noLists() {
		for _, other := range [][]api.Entry{nil, {}, list("a:x"), many(100, 8), l} {
			if d, e := segment.Diff(l, other); len(d) != 0 || e != api.ErrEntry {
				t.Errorf("Diff of the %d. and a list: %v, %v", i, d, e)
			}
			if d, e := segment.Diff(other, l); len(d) != 0 || e != api.ErrEntry {
				t.Errorf("Diff of a list and the %d.: %v, %v", i, d, e)
			}
		}
	}
}

// P14.4: drawn entries, of which not all are lists.
func TestDrawnDiffs(t *testing.T) {
	r := rand.New(rand.NewSource(144))
	met := map[api.Errno]int{}
	for range 10000 {
		width := 1 + r.Intn(32)
		a, b := drawn(r, width, 30), drawn(r, width, 30)
		_, e := wantDiff(a, b)
		met[e]++
		wantDiffAs(t, a, b)
		if t.Failed() {
			t.FailNow()
		}
	}
	if met[api.OK] < 3000 || met[api.ErrEntry] < 1000 {
		t.Errorf("met %v", met)
	}
}

// R3: Diff leaves what is handed in as it was, and two of its answers share no memory.
func TestDiffAnew(t *testing.T) {
	a, b := roomy(list("a:x b:y c:z")), roomy(list("b:w c:z d:v"))
	wasA, wasB := slices.Clone(whole(a)), slices.Clone(whole(b))
	first, _ := segment.Diff(a, b)
	second, _ := segment.Diff(a, b)
	for i := range whole(first) {
		whole(first)[i] = api.Diff{Key: "scribbled"}
	}
	want, _ := wantDiff(a, b)
	if !slices.Equal(second, want) || !slices.Equal(whole(a), wasA) || !slices.Equal(whole(b), wasB) {
		t.Errorf("%v, %v, %v", second, a, b)
	}
	wantDiffAs(t, a, b)
}
