package vector_test

import (
	"math"
	"math/rand"
	"slices"
	"testing"

	"concord/api"
	"concord/vector"
)

// wantTwo holds what Max, Below and Compare answer about two lists, either one first, against the oracle.
func wantTwo(t *testing.T, what string, a, b []api.Dot) {
	t.Helper()
	for range 2 {
		m, e := wantMax(a, b)
		if got, f := vector.Max(a, b); f != e || !slices.Equal(got, m) {
			t.Errorf("%s: Max(%v, %v) is %v, %v, want %v, %v", what, a, b, got, f, m, e)
		}
		if got := vector.Below(a, b); got != wantBelow(a, b) {
			t.Errorf("%s: Below(%v, %v) is %v", what, a, b, got)
		}
		if got, want := vector.Compare(a, b), wantCompare(a, b); got != want {
			t.Errorf("%s: Compare(%v, %v) is %d, want %d", what, a, b, got, want)
		}
		a, b = b, a
	}
}

// P10.2, P10.3: every two of the vectors at the edges, and of the small ones.
func TestTwoVectors(t *testing.T) {
	for what, a := range vectors() {
		for with, b := range vectors() {
			wantTwo(t, what+" with "+with, a, b)
		}
	}
	for _, a := range small() {
		for _, b := range small() {
			wantTwo(t, "small", a, b)
		}
	}
}

// P10.2, P10.3: where one may not be, there is no max, none is below, and they are held against one another as 2, the same list with itself, too.
func TestTwoOfWhichOneMayNotBe(t *testing.T) {
	for what, a := range none() {
		if len(a) > 200 {
			a = a[:200]
		}
		for _, b := range [][]api.Dot{a, nil, of(1, 1), of(1, end), many(64, 0, 1, end), of(1, 0)} {
			for range 2 {
				if m, e := vector.Max(a, b); len(m) != 0 || e != api.ErrVector {
					t.Errorf("%s: Max(%v, %v) is %v, %v", what, a, b, m, e)
				}
				if vector.Below(a, b) || vector.Compare(a, b) != 2 {
					t.Errorf("%s: Below(%v, %v) is %v, Compare %d", what, a, b, vector.Below(a, b), vector.Compare(a, b))
				}
				a, b = b, a
			}
		}
	}
}

// P10.2: ErrVector goes ahead of ErrBig.
func TestMaxFirstError(t *testing.T) {
	full, more := many(64, 1, 1, 1), many(65, 100, 1, 1)
	for _, c := range [][2][]api.Dot{{full, more}, {more, full}, {more, more}, {full, of(100, 0)}, {of(100, end+1), full}} {
		if m, e := vector.Max(c[0], c[1]); len(m) != 0 || e != api.ErrVector {
			t.Errorf("Max of %d and %d: %v, %v", len(c[0]), len(c[1]), m, e)
		}
	}
}

// P10.2: a max of 64 dots is one, one of 65 is too great, however the dots are dealt out; Below and Compare know no such bound.
func TestMaxAboutItsBound(t *testing.T) {
	for n := range 65 {
		for more := range 65 - n {
			a := many(64, 0, 2, 2)
			b := append(many(n, 0, 2, 3), many(more, 1001, 1, 1)...)
			m, e := vector.Max(a, b)
			if more > 0 && (e != api.ErrBig || len(m) != 0) {
				t.Errorf("%d in common, %d more: %d dots, %v", n, more, len(m), e)
			}
			if more == 0 && (e != api.OK || len(m) != 64) {
				t.Errorf("%d in common: %d dots, %v", n, len(m), e)
			}
			wantTwo(t, "about the bound", a, b)
		}
	}
	for n := range 65 {
		wantTwo(t, "dealt out", many(n, 0, 1, 1), many(64-n, 500, 1, 1))
		wantTwo(t, "dealt out, one more", many(n, 0, 1, 1), many(min(65-n, 64), 500, 1, 1))
		wantTwo(t, "the greater ones first", many(n, math.MaxUint32-70, 1, 1), many(64-n, 0, 1, 1))
	}
	if got := vector.Compare(many(64, 0, 1, 1), many(64, 64, 1, 1)); got != 2 {
		t.Errorf("Compare of 128 actors: %d", got)
	}
}

// P10.2, P10.3: drawn lists, of which some may not be; one is often a changed copy of the other.
func TestDrawnTwo(t *testing.T) {
	r := rand.New(rand.NewSource(102))
	told := map[int8]int{}
	errs := map[api.Errno]int{}
	for range 30000 {
		a, b := drawnList(r), drawnList(r)
		if r.Intn(3) == 0 {
			a, b = drawn(r, 64), drawn(r, 64)
		}
		if r.Intn(2) == 0 {
			b = changed(r, a)
		}
		told[wantCompare(a, b)]++
		_, e := wantMax(a, b)
		errs[e]++
		wantTwo(t, "drawn", a, b)
		if t.Failed() {
			t.FailNow()
		}
	}
	for _, c := range []int8{-1, 0, 1, 2} {
		if told[c] < 1000 {
			t.Errorf("only %d compare as %d", told[c], c)
		}
	}
	for _, e := range []api.Errno{api.OK, api.ErrVector, api.ErrBig} {
		if errs[e] < 500 {
			t.Errorf("only %d have a Max with %v", errs[e], e)
		}
	}
}

// changed is a copy in which a few counts are turned, and from which a few dots are taken.
func changed(r *rand.Rand, v []api.Dot) []api.Dot {
	out := slices.Clone(v)
	for range r.Intn(3) {
		if len(out) == 0 {
			return out
		}
		i := r.Intn(len(out))
		switch r.Intn(3) {
		case 0:
			out = slices.Delete(out, i, i+1)
		case 1:
			out[i].Count = min(out[i].Count+1, end)
		case 2:
			out[i].Count = max(out[i].Count-1, 1)
		}
	}
	return out
}

// R3: what Max answers is new memory, also where one of both is the max, and both are one.
func TestMaxAnew(t *testing.T) {
	for what, v := range vectors() {
		a, b := roomy(v), roomy(of(1, 2))
		for _, c := range [][2][]api.Dot{{a, nil}, {nil, a}, {a, a}, {a, a[:len(a)/2]}, {a[:len(a)/2], a}, {a, b}, {b, a}} {
			was, wasB := slices.Clone(whole(a)), slices.Clone(whole(b))
			m, e := vector.Max(c[0], c[1])
			again, f := vector.Max(c[0], c[1])
			want := slices.Clone(again)
			scribble(m)
			if !slices.Equal(whole(a), was) || !slices.Equal(whole(b), wasB) {
				t.Errorf("%s: the max is memory of an argument", what)
			}
			if e != f || !slices.Equal(again, want) {
				t.Errorf("%s: two answers share memory", what)
			}
			if third, _ := vector.Max(c[0], c[1]); !slices.Equal(third, want) {
				t.Errorf("%s: a later answer shows what was written", what)
			}
		}
	}
}
