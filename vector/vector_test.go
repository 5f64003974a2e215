package vector_test

import (
	"math"
	"math/rand"
	"slices"
	"testing"

	"concord/api"
	"concord/vector"
)

// actors are those about which a vector is asked: its own, their neighbours, and the ends.
func actors(v []api.Dot) []uint32 {
	all := []uint32{0, 1, 2, 99, math.MaxUint32 - 1, math.MaxUint32}
	for _, d := range v[:min(len(v), 130)] {
		all = append(all, d.Actor-1, d.Actor, d.Actor+1)
	}
	return all
}

// wantAsked holds what Valid, Count, Covers and Next answer about a list against the oracle.
func wantAsked(t *testing.T, what string, v []api.Dot) {
	t.Helper()
	if got := vector.Valid(v); got != mayBe(v) {
		t.Errorf("%s: Valid is %v", what, got)
	}
	for _, actor := range actors(v) {
		count := wantCount(v, actor)
		if got := vector.Count(v, actor); got != count {
			t.Errorf("%s: Count of %d is %d, want %d", what, actor, got, count)
		}
		for _, c := range []uint64{0, 1, 2, count - 1, count, count + 1, end - 1, end, end + 1, math.MaxUint64} {
			d := api.Dot{Actor: actor, Count: c}
			if got := vector.Covers(v, d); got != wantCovers(v, d) {
				t.Errorf("%s: Covers of %v is %v", what, d, got)
			}
		}
		d, e := wantNext(v, actor)
		if got, f := vector.Next(v, actor); got != d || f != e {
			t.Errorf("%s: Next of %d is %v, %v, want %v, %v", what, actor, got, f, d, e)
		}
	}
}

// P10.1, P10.4: vectors at the edges may be.
func TestVectors(t *testing.T) {
	for what, v := range vectors() {
		if !vector.Valid(v) {
			t.Errorf("%s: it may not be", what)
		}
		wantAsked(t, what, v)
	}
}

// P10.1, P10.4: lists that may not be have no counts, cover nothing and have no next dot, also of actors that are right in them.
func TestNoVectors(t *testing.T) {
	for what, v := range none() {
		if vector.Valid(v) {
			t.Errorf("%s: it may be", what)
		}
		for _, d := range v[:min(len(v), 70)] {
			if vector.Count(v, d.Actor) != 0 || vector.Covers(v, d) || vector.Covers(v, api.Dot{Actor: d.Actor, Count: 1}) {
				t.Errorf("%s: %v was seen", what, d)
			}
			if next, e := vector.Next(v, d.Actor); next != (api.Dot{}) || e != api.ErrVector {
				t.Errorf("%s: Next of %d is %v, %v", what, d.Actor, next, e)
			}
		}
		wantAsked(t, what, v)
	}
}

// P10.1: from which count on, and up to which, a dot may be in a vector.
func TestCountsThatMayBe(t *testing.T) {
	for count, want := range map[uint64]bool{
		0: false, 1: true, 2: true, 1 << 32: true, 1<<32 + 1: true, end - 1: true, end: true,
		end + 1: false, 1 << 41: false, 1 << 63: false, math.MaxUint64 - 1: false, math.MaxUint64: false,
	} {
		for _, v := range [][]api.Dot{of(5, count), of(5, count, 6, 1), of(4, 1, 5, count)} {
			if got := vector.Valid(v); got != want {
				t.Errorf("Valid(%v) is %v", v, got)
			}
		}
	}
}

// P10.1: how many dots may be.
func TestHowManyMayBe(t *testing.T) {
	for n := range 200 {
		if got := vector.Valid(many(n, 7, 3, 2)); got != (n <= 64) {
			t.Errorf("Valid of %d dots is %v", n, got)
		}
	}
}

// P10.1: every two actors of three dots may be turned, or be the same: that is seen wherever it is.
func TestActorsThatDoNotRise(t *testing.T) {
	for a := range uint64(4) {
		for b := range uint64(4) {
			for c := range uint64(4) {
				if got := vector.Valid(of(a, 1, b, 1, c, 1)); got != (a < b && b < c) {
					t.Errorf("Valid of the actors %d %d %d is %v", a, b, c, got)
				}
			}
		}
	}
}

// P10.1, P10.4: all small vectors, and drawn lists.
func TestDrawnLists(t *testing.T) {
	for _, v := range small() {
		wantAsked(t, "small", v)
	}
	r := rand.New(rand.NewSource(101))
	may := 0
	for range 5000 {
		v := drawnList(r)
		if mayBe(v) {
			may++
		}
		wantAsked(t, "drawn", v)
		if t.Failed() {
			t.Fatalf("of %v", v)
		}
	}
	if may < 2000 || may > 4500 {
		t.Errorf("%d of the lists may be", may)
	}
}

// P10.4: a vector that is full has a next dot of a further actor, too: Next makes a dot, not a vector.
func TestNextOfAFullOne(t *testing.T) {
	v := many(64, 10, 1, end)
	if d, e := vector.Next(v, 9); d != dot(9, 1) || e != api.OK {
		t.Errorf("Next of another actor: %v, %v", d, e)
	}
	if d, e := vector.Next(v, 73); d != dot(0, 0) || e != api.ErrEnd {
		t.Errorf("Next of the last one: %v, %v", d, e)
	}
	v[63].Count--
	if d, e := vector.Next(v, 73); d != dot(73, end) || e != api.OK {
		t.Errorf("Next of one below the end: %v, %v", d, e)
	}
}

// P10.4: ErrVector goes ahead of ErrEnd.
func TestNextFirstError(t *testing.T) {
	if d, e := vector.Next(of(1, end, 1, end), 1); d != dot(0, 0) || e != api.ErrVector {
		t.Errorf("Next: %v, %v", d, e)
	}
}

// R3: no call changes what is handed in, the room behind its end neither.
func TestNothingIsChanged(t *testing.T) {
	lists := []map[string][]api.Dot{vectors(), none()}
	for _, m := range lists {
		for what, v := range m {
			a, b := roomy(v), roomy(of(1, 3, 2, 2, 5, 1))
			wasA, wasB := slices.Clone(whole(a)), slices.Clone(whole(b))
			vector.Valid(a)
			vector.Count(a, 1)
			vector.Covers(a, dot(1, 1))
			vector.Next(a, 1)
			vector.Encode(a)
			vector.Max(a, b)
			vector.Max(b, a)
			vector.Max(a, a)
			vector.Below(a, b)
			vector.Below(b, a)
			vector.Compare(a, b)
			if !slices.Equal(whole(a), wasA) || !slices.Equal(whole(b), wasB) {
				t.Errorf("%s: the lists were changed", what)
			}
		}
	}
}
