package kinds_test

import (
	"math/rand"
	"slices"
	"testing"

	"concord/api"
	"concord/kinds"
)

// wantTwo looks whether each is its own join with itself, the join one either way round, and both below it.
func wantTwo(t *testing.T, a, b string) {
	t.Helper()
	if s, e := kinds.Join(a, a); s != a || e != api.OK || !kinds.Below(a, a) {
		t.Errorf("% x: its join with itself is % x, %v", a, s, e)
	}
	s, e := kinds.Join(a, b)
	if other, f := kinds.Join(b, a); other != s || f != e {
		t.Errorf("% x, % x: % x, %v and % x, %v", a, b, s, e, other, f)
	}
	if e == api.OK && (!kinds.Below(a, s) || !kinds.Below(b, s) || kinds.Kind(s) != kinds.Kind(a)) {
		t.Errorf("% x, % x: they are not below % x", a, b, s)
	}
	if kinds.Below(a, b) && kinds.Below(b, a) != (a == b) {
		t.Errorf("% x, % x: below one another", a, b)
	}
}

// joinOf is the join of a join and a third one.
func joinOf(a string, e api.Errno, b string) (string, api.Errno) {
	if e != api.OK {
		return "", e
	}
	return kinds.Join(a, b)
}

// wantThree looks whether it matters which two come first, whether below goes on, and whether the join is the least above two.
func wantThree(t *testing.T, a, b, c string) {
	t.Helper()
	ab, e := kinds.Join(a, b)
	bc, f := kinds.Join(b, c)
	left, g := joinOf(ab, e, c)
	right, h := joinOf(bc, f, a)
	if g == api.OK && h == api.OK && left != right {
		t.Errorf("% x, % x, % x: % x and % x", a, b, c, left, right)
	}
	if g != h {
		t.Errorf("% x, % x, % x: %v and %v", a, b, c, g, h)
	}
	if kinds.Below(a, b) && kinds.Below(b, c) && !kinds.Below(a, c) {
		t.Errorf("% x, % x, % x: below does not go on", a, b, c)
	}
	if kinds.Below(a, c) && kinds.Below(b, c) && (e != api.OK || !kinds.Below(ab, c)) {
		t.Errorf("% x, % x, % x: the join % x, %v is not below the third", a, b, c, ab, e)
	}
}

// P12.8: values at their edges, two by two, and those of a kind three by three.
func TestJoinFollows(t *testing.T) {
	byKind := map[uint8][]string{}
	for _, value := range values() {
		byKind[value[0]] = append(byKind[value[0]], value)
	}
	for kind, l := range byKind {
		slices.Sort(l)
		l = slices.Compact(l)
		if kind == kinds.KindCorner {
			l = l[:20]
		}
		for _, a := range l {
			for _, b := range l {
				wantTwo(t, a, b)
				for _, c := range l {
					wantThree(t, a, b, c)
				}
			}
		}
	}
}

// P12.8: drawn ones, of which one is often made of the others.
func TestJoinOfDrawnFollows(t *testing.T) {
	r := rand.New(rand.NewSource(1208))
	for range 40_000 {
		kind := 1 + r.Intn(5)
		a, b, c := drawnOf(r, kind), drawnOf(r, kind), drawnOf(r, kind)
		if s, e := kinds.Join(a, b); e == api.OK && r.Intn(2) == 0 {
			c = s
			if s, e := kinds.Join(s, drawnOf(r, kind)); e == api.OK && r.Intn(2) == 0 {
				c = s
			}
		}
		wantTwo(t, a, b)
		wantThree(t, a, b, c)
		if t.Failed() {
			t.FailNow()
		}
	}
}

// P12.8: floats are below one another as they stand in their order, all NaNs at one place.
func TestOrderOfFloats(t *testing.T) {
	l := floats()
	for i, x := range l {
		for k, y := range l {
			if got := kinds.Below(kinds.Real(x), kinds.Real(y)); got != (i <= k) {
				t.Errorf("Below(%v, %v) is %v", x, y, got)
			}
			if got := kinds.Below(kinds.Corner(complex(x, y)), kinds.Corner(complex(y, y))); got != (i <= k) {
				t.Errorf("Below of corners with %v, %v is %v", x, y, got)
			}
		}
		for _, n := range nans() {
			if !kinds.Below(kinds.Real(x), kinds.Real(n)) || kinds.Below(kinds.Real(n), kinds.Real(x)) != (x != x) {
				t.Errorf("%v and a NaN", x)
			}
		}
	}
	r := rand.New(rand.NewSource(1209))
	for range 50_000 {
		x, y := drawnFloat(r), drawnFloat(r)
		if got := kinds.Below(kinds.Real(x), kinds.Real(y)); got != (rank(x) <= rank(y)) {
			t.Errorf("Below(%v, %v) is %v", x, y, got)
		}
	}
}

// P12.8: a flag is below one that is on, a tally below one with greater counts, a set below one that has its runes; no value is below one of another kind.
func TestBelow(t *testing.T) {
	for _, c := range []struct {
		a, b string
		want bool
	}{
		{"\x01\x00", "\x01\x01", true},
		{"\x01\x01", "\x01\x00", false},
		{"\x03", "\x03\x01\x00\x01\x00\x00", true},
		{"\x03\x01\x00\x01\x00\x00", "\x03", false},
		{"\x03\x01\x00\x01\x00\x00", "\x03\x01\x00\x00\x00\x01", false},
		{"\x03\x01\x00\x01\x00\x00", "\x03\x01\x00\x01\x00\x01", true},
		{"\x03\x01\x00\x01\x00\x00", "\x03\x02\x00\x01\x00\x00", false},
		{"\x04", "\x04A", true},
		{"\x04A", "\x04", false},
		{"\x04AC", "\x04ABC", true},
		{"\x04AC", "\x04AB", false},
		{kinds.Corner(1 + 1i), kinds.Corner(1 + 2i), true},
		{kinds.Corner(1 + 1i), kinds.Corner(2 + 0i), false},
		{kinds.Corner(0), kinds.Corner(complex(0, negativeNought)), false},
		{kinds.Real(0), kinds.Corner(0), false},
		{"\x01\x00", "\x03", false},
		{"\x01\x02", "\x01\x02", false},
		{"", "", false},
		{"plain", "plain", false},
		{"\x01\x00", "", false},
		{"\x04" + letters(39), "\x04" + letters(38) + "~", false},
	} {
		if got := kinds.Below(c.a, c.b); got != c.want {
			t.Errorf("Below(% x, % x) is %v", c.a, c.b, got)
		}
	}
}
