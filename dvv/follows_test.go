package dvv_test

import (
	"math/rand"
	"slices"
	"testing"

	"concord/api"
	"concord/dvv"
	"concord/vector"
)

// joinOf is the join of two of which there is one.
func joinOf(t *testing.T, a, b api.State) api.State {
	t.Helper()
	s, e := dvv.Join(a, b)
	if e != api.OK || !dvv.Valid(s) {
		t.Fatalf("Join(%v, %v): %v, %v", a, b, s, e)
	}
	return s
}

// wantOne looks whether a state's join with itself, and with absent, is that state, and whether it is below itself, and absent below it.
func wantOne(t *testing.T, a api.State) {
	t.Helper()
	for _, b := range []api.State{a, {}, clone(a)} {
		if !dvv.Same(joinOf(t, a, b), a) || !dvv.Same(joinOf(t, b, a), a) || !dvv.Below(b, a) {
			t.Errorf("%v with %v is not itself", a, b)
		}
	}
}

// wantOrder looks whether the join of two is one, either way round, and above both; and whether two that are below one another are the Same.
func wantOrder(t *testing.T, a, b api.State) {
	t.Helper()
	both := joinOf(t, a, b)
	if !dvv.Same(both, joinOf(t, b, a)) {
		t.Errorf("%v, %v: two joins", a, b)
	}
	if !dvv.Below(a, both) || !dvv.Below(b, both) {
		t.Errorf("%v, %v: not below %v", a, b, both)
	}
	if each := dvv.Below(a, b) && dvv.Below(b, a); each != dvv.Same(a, b) {
		t.Errorf("%v, %v: below one another is %v", a, b, each)
	}
	if dvv.Below(a, b) != dvv.Same(both, b) {
		t.Errorf("%v, %v: the join is %v, Below %v", a, b, both, dvv.Below(a, b))
	}
}

// wantThree looks whether below goes from one to the next, whether the join is below each that both are below, and whether it matters which two come first.
func wantThree(t *testing.T, a, b, c api.State) {
	t.Helper()
	if dvv.Below(a, b) && dvv.Below(b, c) && !dvv.Below(a, c) {
		t.Errorf("%v, %v, %v: below does not go on", a, b, c)
	}
	if dvv.Below(a, c) && dvv.Below(b, c) && !dvv.Below(joinOf(t, a, b), c) {
		t.Errorf("%v, %v, %v: the join is not the least", a, b, c)
	}
	if left, right := joinOf(t, joinOf(t, a, b), c), joinOf(t, a, joinOf(t, b, c)); !dvv.Same(left, right) {
		t.Errorf("%v, %v, %v: %v and %v", a, b, c, left, right)
	}
}

// P11.7, P8: small states, one by one, two by two and three by three.
func TestOrderOfSmall(t *testing.T) {
	for _, a := range states() {
		wantOne(t, a)
	}
	for _, a := range small([]uint32{1, 2}, 2) {
		wantOne(t, a)
	}
	for _, all := range [][]api.State{small([]uint32{1, 2}, 1), small([]uint32{5}, 2)} {
		for _, a := range all {
			for _, b := range all {
				wantOrder(t, a, b)
				for _, c := range all {
					wantThree(t, a, b, c)
				}
			}
			if t.Failed() {
				t.FailNow()
			}
		}
	}
}

// P11.7, P8: drawn states, of which one is often made of the others.
func TestOrderOfDrawn(t *testing.T) {
	r := rand.New(rand.NewSource(117))
	for range 8000 {
		a, b, c := drawnFew(r), drawnFew(r), drawnFew(r)
		switch r.Intn(4) {
		case 0:
			b = changed(r, a)
			c = changed(r, b)
		case 1:
			c = joinOf(t, a, b)
		case 2:
			b = joinOf(t, a, b)
			c = joinOf(t, b, c)
		}
		wantOne(t, a)
		wantOrder(t, a, b)
		wantThree(t, a, b, c)
		if t.Failed() {
			t.FailNow()
		}
	}
}

// drawnFew is a drawn state of few dots, so that no join meets a bound.
func drawnFew(r *rand.Rand) api.State {
	for {
		if s := drawn(r); len(s.Seen) < 10 && len(s.Siblings) < 20 {
			return s
		}
	}
}

// P11.7: about a bound one way round of three may be refused and the other not; where both are there, they are the Same.
func TestThreeAboutTheBound(t *testing.T) {
	r := rand.New(rand.NewSource(118))
	both, one := 0, 0
	for range 3000 {
		a, b, c := rowState(20+r.Intn(4), 1, "x"), rowState(20+r.Intn(4), 2, "y"), rowState(20+r.Intn(4), 3, "z")
		if r.Intn(2) == 0 {
			c.Seen = append(dots("1:50"), c.Seen...)
		}
		if r.Intn(2) == 0 {
			a = rowState(60, 1, "x")
		}
		left, e := joinOfThree(a, b, c)
		right, f := joinOfThree(c, a, b)
		if e == api.OK && f == api.OK {
			both++
			if !dvv.Same(left, right) {
				t.Fatalf("%v, %v, %v: %v and %v", a, b, c, left, right)
			}
		}
		if e != f {
			one++
		}
	}
	if both < 100 || one < 100 {
		t.Errorf("both ways %d times, one way %d times", both, one)
	}
}

func joinOfThree(a, b, c api.State) (api.State, api.Errno) {
	s, e := dvv.Join(a, b)
	if e != api.OK {
		return api.State{}, e
	}
	return dvv.Join(s, c)
}

// wantUpward looks whether a put goes upward, with a new dot, and keeps nothing but what its context does not cover.
func wantUpward(t *testing.T, s api.State, ctx []api.Dot, actor uint32, x api.Sibling) {
	t.Helper()
	after, d, e := dvv.Put(s, ctx, actor, x.Value, x.Gone)
	if e != api.OK {
		return
	}
	if !dvv.Valid(after) || !dvv.Below(s, after) || dvv.Below(after, s) || !vector.Below(ctx, after.Seen) {
		t.Errorf("Put(%v, %v) is %v: not above", s, ctx, after)
	}
	if d.Actor != actor || vector.Covers(s.Seen, d) || vector.Covers(ctx, d) || !vector.Covers(after.Seen, d) {
		t.Errorf("Put(%v, %v): the dot %v", s, ctx, d)
	}
	x.Dot = d
	if !slices.Contains(after.Siblings, x) {
		t.Errorf("Put(%v, %v) is %v: without %v", s, ctx, after, x)
	}
	for _, y := range after.Siblings {
		if y.Dot != d && (!slices.Contains(s.Siblings, y) || vector.Covers(ctx, y.Dot)) {
			t.Errorf("Put(%v, %v) is %v: with %v", s, ctx, after, y)
		}
	}
	for _, y := range s.Siblings {
		if !vector.Covers(ctx, y.Dot) && !slices.Contains(after.Siblings, y) {
			t.Errorf("Put(%v, %v) is %v: %v was lost", s, ctx, after, y)
		}
	}
}

// P11.7, P4, P8: puts go upward.
func TestUpward(t *testing.T) {
	for _, s := range states() {
		for _, ctx := range contexts(s) {
			for _, actor := range []uint32{0, 1, 7, 65, lastActor} {
				wantUpward(t, s, ctx, actor, api.Sibling{Value: "n"})
				wantUpward(t, s, ctx, actor, api.Sibling{Gone: true})
			}
		}
	}
	r := rand.New(rand.NewSource(119))
	for range 10000 {
		s, ctx := drawn(r), drawn(r).Seen
		if r.Intn(2) == 0 {
			ctx = s.Seen
		}
		wantUpward(t, s, ctx, uint32(r.Intn(20)), drawnContent(r))
		if t.Failed() {
			t.FailNow()
		}
	}
}

// P11.7: there and back, of drawn states; unlike ones have unlike bytes.
func TestThereAndBack(t *testing.T) {
	r := rand.New(rand.NewSource(120))
	told := map[string]api.State{}
	for range 20000 {
		s := drawn(r)
		b, e := dvv.Encode(s)
		if e != api.OK {
			t.Fatalf("Encode(%v): %v", s, e)
		}
		got, e := dvv.Decode(b)
		if e != api.OK || !dvv.Same(got, s) {
			t.Fatalf("%v: there and back: %v, %v", s, got, e)
		}
		if other, is := told[b]; is && !dvv.Same(other, s) {
			t.Fatalf("%v and %v have the bytes % x", s, other, b)
		}
		told[b] = s
	}
}
