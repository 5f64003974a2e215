package bitmap_test

import (
	"math/rand"
	"slices"
	"testing"

	"concord/api"
	"concord/bitmap"
)

// list is the numbers below n for which in is true, rising.
func list(n int, in func(int) bool) []int {
	out := []int{}
	for i := range n {
		if in(i) {
			out = append(out, i)
		}
	}
	return out
}

// someSet is a set in which none, few, many or all numbers are.
func someSet(t *testing.T, source *rand.Rand, n int) *bitmap.Set {
	s := made(t, n)
	share := source.Intn(5)
	for i := range n {
		if source.Intn(4) < share {
			s.Put(i)
		}
	}
	return s
}

// onBoth does one of Or, And and Minus to a copy, asks for OK, and that the other set stays.
func onBoth(t *testing.T, a, b *bitmap.Set, do func(s, o *bitmap.Set) api.Errno) *bitmap.Set {
	t.Helper()
	c, stays := a.Copy(), b.Copy()
	if e := do(c, b); e != api.OK {
		t.Fatalf("of %d: %v", a.Len(), e)
	}
	if !b.Same(stays) {
		t.Fatalf("of %d: the other set was changed", a.Len())
	}
	return c
}

// P3.5, P3.7: Or, And and Minus, number by number; what they count together.
func TestTwoSets(t *testing.T) {
	source := rand.New(rand.NewSource(3))
	for round := range 600 {
		n := source.Intn(200)
		if round < len(bounds()) {
			n = bounds()[round]
		}
		a, b := someSet(t, source, n), someSet(t, source, n)
		or := onBoth(t, a, b, (*bitmap.Set).Or)
		and := onBoth(t, a, b, (*bitmap.Set).And)
		minus := onBoth(t, a, b, (*bitmap.Set).Minus)
		wantSet(t, "Or", or, n, list(n, func(i int) bool { return a.Has(i) || b.Has(i) }))
		wantSet(t, "And", and, n, list(n, func(i int) bool { return a.Has(i) && b.Has(i) }))
		wantSet(t, "Minus", minus, n, list(n, func(i int) bool { return a.Has(i) && !b.Has(i) }))
		if a.Count()+b.Count() != or.Count()+and.Count() {
			t.Errorf("of %d: Counts %d and %d, of Or and And %d and %d", n, a.Count(), b.Count(), or.Count(), and.Count())
		}
		if left := onBoth(t, a, and, (*bitmap.Set).Minus); !left.Same(minus) {
			t.Errorf("of %d: Minus is not what And has not left", n)
		}
		if whole := onBoth(t, minus, and, (*bitmap.Set).Or); !whole.Same(a) {
			t.Errorf("of %d: Minus and And are not the set together", n)
		}
	}
}

// P3.5: the other set may be the set itself.
func TestWithItself(t *testing.T) {
	for _, n := range bounds() {
		s := made(t, n)
		s.Fill(n/2, n)
		want := s.Copy()
		if s.Or(s) != api.OK || !s.Same(want) || s.And(s) != api.OK || !s.Same(want) {
			t.Errorf("of %d: Or or And with itself changed the set", n)
		}
		if s.Minus(s) != api.OK || s.Count() != 0 || s.Len() != n {
			t.Errorf("of %d: Minus of itself leaves %d", n, s.Count())
		}
	}
}

// P3.5: another Len, also where as many words or bytes are behind it, is refused and changes nothing.
func TestAnotherLen(t *testing.T) {
	for _, c := range [][2]int{{10, 11}, {11, 10}, {0, 1}, {1, 0}, {63, 64}, {64, 65}, {65, 64}, {65, 128}, {10, 1000}, {1000, 10}, {9, 16}} {
		s, o := made(t, c[0]), made(t, c[1])
		s.Fill(c[0]/2, c[0])
		o.Fill(0, c[1]/2)
		mine, other := s.Copy(), o.Copy()
		if s.Or(o) != api.ErrArg || s.And(o) != api.ErrArg || s.Minus(o) != api.ErrArg {
			t.Errorf("a set of %d takes one of %d", c[0], c[1])
		}
		if !s.Same(mine) || !o.Same(other) {
			t.Errorf("of %d and %d: what is refused changed something", c[0], c[1])
		}
	}
}

// P3.7: From of the Len and Told is the Same set, of every set with a Len up to 10; unlike sets have unlike bytes.
func TestEverySmallSet(t *testing.T) {
	for n := range 11 {
		seen := map[string]int{}
		for bits := range 1 << n {
			in := list(n, func(i int) bool { return bits>>i&1 == 1 })
			s := made(t, n, in...)
			text := s.Told()
			if other, ok := seen[text]; ok {
				t.Errorf("of %d: the sets %b and %b have the same bytes", n, bits, other)
			}
			seen[text] = bits
			back, e := bitmap.From(n, text)
			if e != api.OK || !back.Same(s) || back.Told() != text {
				t.Errorf("From(%d, % x): %v", n, text, e)
			}
			wantSet(t, "From", back, n, in)
		}
	}
}

// P3.7, R7: every row of two bytes is refused, or told again as it is.
func TestEveryTwoBytes(t *testing.T) {
	for n := 9; n <= 16; n++ {
		taken := 0
		for x := range 1 << 16 {
			text := string([]byte{byte(x), byte(x >> 8)})
			s, e := bitmap.From(n, text)
			if (e == api.OK) != (x < 1<<n) || e == api.OK && s.Told() != text {
				t.Fatalf("From(%d, % x): %v", n, text, e)
			}
			if e == api.OK {
				taken++
			}
		}
		if taken != 1<<n {
			t.Errorf("of %d: %d rows are taken", n, taken)
		}
	}
}

// P3.7: Next from 0 on, and from each number's successor on, tells what Each tells.
func TestNextTellsEach(t *testing.T) {
	source := rand.New(rand.NewSource(4))
	for range 300 {
		n := source.Intn(300)
		s := someSet(t, source, n)
		told := []int{}
		for i, ok := s.Next(0); ok; i, ok = s.Next(i + 1) {
			told = append(told, i)
		}
		if !slices.Equal(told, slices.Collect(s.Each())) {
			t.Errorf("of %d: Next tells %v, Each %v", n, told, slices.Collect(s.Each()))
		}
		for from := -2; from < n+70; from++ {
			at := slices.IndexFunc(told, func(i int) bool { return i >= from })
			got, ok := s.Next(from)
			if ok != (at >= 0) || ok && got != told[at] || !ok && got != 0 {
				t.Fatalf("of %d: Next(%d) is %d, %v in %v", n, from, got, ok, told)
			}
		}
	}
}

// oneOf does some call that changes a set, to it and to the numbers that should be in.
func oneOf(t *testing.T, source *rand.Rand, s *bitmap.Set, in []bool) {
	n := len(in)
	i, j := source.Intn(n+4)-2, source.Intn(n+4)-2
	inside := api.ErrArg
	if i >= 0 && i < n {
		inside = api.OK
	}
	switch source.Intn(8) {
	case 0, 1, 2:
		if e := s.Put(i); e != inside {
			t.Fatalf("Put(%d) of %d: %v", i, n, e)
		}
		if inside == api.OK {
			in[i] = true
		}
	case 3, 4, 5:
		if e := s.Take(i); e != inside {
			t.Fatalf("Take(%d) of %d: %v", i, n, e)
		}
		if inside == api.OK {
			in[i] = false
		}
	case 6:
		row := 0 <= i && i <= j && j <= n
		if e := s.Fill(i, j); (e == api.OK) != row {
			t.Fatalf("Fill(%d, %d) of %d: %v", i, j, n, e)
		}
		for at := i; row && at < j; at++ {
			in[at] = true
		}
	case 7:
		if source.Intn(8) == 0 {
			s.Clear()
			clear(in)
		}
	}
}

// P3.2, P3.3, P3.6: many calls one behind the other, held against a list of bools.
func TestManyCalls(t *testing.T) {
	source := rand.New(rand.NewSource(5))
	for range 40 {
		n := source.Intn(200)
		s, in := made(t, n), make([]bool, n)
		for range 60 {
			oneOf(t, source, s, in)
			wantSet(t, "behind some calls", s, n, list(n, func(i int) bool { return in[i] }))
		}
	}
}
