package vector_test

import (
	"math/rand"
	"slices"
	"testing"

	"concord/api"
	"concord/vector"
)

// maxOf is the max of two of which there is one.
func maxOf(t *testing.T, a, b []api.Dot) []api.Dot {
	t.Helper()
	m, e := vector.Max(a, b)
	if e != api.OK || !vector.Valid(m) {
		t.Fatalf("Max(%v, %v): %v, %v", a, b, m, e)
	}
	return m
}

// wantOrder looks whether each is below itself, and below the other one only where they are the same; and whether both are below their max, which is one, either way round.
func wantOrder(t *testing.T, a, b []api.Dot) {
	t.Helper()
	if !vector.Below(a, a) || vector.Compare(a, a) != 0 || !slices.Equal(maxOf(t, a, a), a) {
		t.Errorf("%v is not itself", a)
	}
	if each := vector.Below(a, b) && vector.Below(b, a); each != slices.Equal(a, b) {
		t.Errorf("%v, %v: below one another is %v", a, b, each)
	}
	m := maxOf(t, a, b)
	if !vector.Below(a, m) || !vector.Below(b, m) {
		t.Errorf("%v, %v: not below %v", a, b, m)
	}
	if !slices.Equal(m, maxOf(t, b, a)) {
		t.Errorf("%v, %v: two maxes", a, b)
	}
	if vector.Below(a, b) != slices.Equal(m, b) {
		t.Errorf("%v, %v: the max is %v, Below %v", a, b, m, vector.Below(a, b))
	}
}

// wantThree looks whether below goes from one to the next, whether the max is below each that both are below, and whether it matters which two come first.
func wantThree(t *testing.T, a, b, c []api.Dot) {
	t.Helper()
	if vector.Below(a, b) && vector.Below(b, c) && !vector.Below(a, c) {
		t.Errorf("%v, %v, %v: below does not go on", a, b, c)
	}
	if vector.Below(a, c) && vector.Below(b, c) && !vector.Below(maxOf(t, a, b), c) {
		t.Errorf("%v, %v, %v: the max is not the least", a, b, c)
	}
	if left, right := maxOf(t, maxOf(t, a, b), c), maxOf(t, a, maxOf(t, b, c)); !slices.Equal(left, right) {
		t.Errorf("%v, %v, %v: %v and %v", a, b, c, left, right)
	}
}

// P10.7: all small ones, two by two and three by three.
func TestOrderOfSmall(t *testing.T) {
	all := small()
	for _, a := range all {
		for _, b := range all {
			wantOrder(t, a, b)
		}
	}
	for _, a := range all {
		for _, b := range all {
			for _, c := range all {
				wantThree(t, a, b, c)
			}
		}
	}
}

// P10.7: drawn ones, of which one is often made of the others.
func TestOrderOfDrawn(t *testing.T) {
	r := rand.New(rand.NewSource(107))
	for range 10000 {
		a, b, c := drawn(r, 20), drawn(r, 20), drawn(r, 20)
		switch r.Intn(4) {
		case 0:
			b = changed(r, a)
			c = changed(r, b)
		case 1:
			c = maxOf(t, a, b)
		case 2:
			b = maxOf(t, a, b)
			c = maxOf(t, b, c)
		}
		wantOrder(t, a, b)
		wantThree(t, a, b, c)
		if t.Failed() {
			t.FailNow()
		}
	}
}

// P10.7: about the bound both ways round of three are there, or neither.
func TestThreeAboutTheBound(t *testing.T) {
	r := rand.New(rand.NewSource(108))
	both := 0
	for range 5000 {
		a, b, c := many(20+r.Intn(3), 0, 1, 1), many(20+r.Intn(3), 20, 1, 2), many(22+r.Intn(4), 40, 1, 3)
		left, e := maxOfThree(a, b, c)
		right, f := maxOfThree(c, b, a)
		if e != f || !slices.Equal(left, right) {
			t.Fatalf("%v, %v, %v: %v, %v", a, b, c, e, f)
		}
		if e == api.OK {
			both++
		}
	}
	if both < 500 || both > 4500 {
		t.Errorf("%d of 5000 are there", both)
	}
}

func maxOfThree(a, b, c []api.Dot) ([]api.Dot, api.Errno) {
	m, e := vector.Max(a, b)
	if e != api.OK {
		return nil, e
	}
	return vector.Max(m, c)
}

// behind is a vector with a dot's count.
func behind(v []api.Dot, d api.Dot) []api.Dot {
	m := counts(v)
	m[d.Actor] = d.Count
	return fromMap(m)
}

// wantStep looks whether Next's dot is new to the vector, and no longer so behind it.
func wantStep(t *testing.T, v []api.Dot, actor uint32) []api.Dot {
	t.Helper()
	d, e := vector.Next(v, actor)
	if e == api.ErrEnd {
		return v
	}
	if e != api.OK || d.Actor != actor || vector.Covers(v, d) {
		t.Fatalf("Next(%v, %d): %v, %v", v, actor, d, e)
	}
	more := behind(v, d)
	if len(more) > 64 {
		return v
	}
	if !vector.Covers(more, d) || vector.Compare(v, more) != -1 || vector.Below(more, v) {
		t.Errorf("%v is not strictly above %v", more, v)
	}
	for c := range min(d.Count, 5) {
		if !vector.Covers(more, api.Dot{Actor: actor, Count: d.Count - c}) {
			t.Errorf("%v does not cover what was ahead of %v", more, d)
		}
	}
	return more
}

// P10.8: a step, of vectors at the edges and of small ones; and many steps, one behind the other.
func TestStep(t *testing.T) {
	for _, v := range vectors() {
		for _, actor := range actors(v) {
			wantStep(t, v, actor)
		}
	}
	for _, v := range small() {
		for _, actor := range actors(v) {
			wantStep(t, v, actor)
		}
	}
	r := rand.New(rand.NewSource(109))
	for range 100 {
		v, given := drawn(r, 10), map[api.Dot]bool{}
		for range 60 {
			actor := uint32(r.Intn(12))
			d, e := vector.Next(v, actor)
			if e == api.OK && given[d] {
				t.Fatalf("%v was given twice", d)
			}
			given[d] = true
			v = wantStep(t, v, actor)
		}
	}
}

// P10.9: there and back, of drawn vectors; unlike ones have unlike bytes.
func TestThereAndBack(t *testing.T) {
	r := rand.New(rand.NewSource(110))
	told := map[string][]api.Dot{}
	for range 20000 {
		v := drawn(r, 64)
		if r.Intn(2) == 0 {
			v = drawn(r, 3)
		}
		s, e := vector.Encode(v)
		if e != api.OK {
			t.Fatalf("Encode(%v): %v", v, e)
		}
		if got, e := vector.Decode(s); e != api.OK || !slices.Equal(got, v) {
			t.Fatalf("%v: there and back: %v, %v", v, got, e)
		}
		if other, is := told[s]; is && !slices.Equal(other, v) {
			t.Fatalf("%v and %v have the bytes % x", v, other, s)
		}
		told[s] = v
	}
}
