package bitmap_test

import (
	"math"
	"slices"
	"testing"

	"concord/api"
	"concord/bitmap"
)

// bounds are those about the ends of bytes and words, the least and the greatest.
func bounds() []int {
	return []int{0, 1, 2, 7, 8, 9, 10, 16, 31, 32, 33, 63, 64, 65, 71, 72, 73, 127, 128, 129, 130, 1000, 4096, api.MaxBits - 1, api.MaxBits}
}

// made is a set with a bound and numbers.
func made(t *testing.T, n int, in ...int) *bitmap.Set {
	t.Helper()
	s, e := bitmap.New(n)
	if e != api.OK || s == nil {
		t.Fatalf("New(%d): %v, %v", n, s, e)
	}
	for _, i := range in {
		if e := s.Put(i); e != api.OK {
			t.Fatalf("Put(%d) of %d: %v", i, n, e)
		}
	}
	return s
}

// wantSet holds all that a set answers against the numbers that should be in it, rising.
func wantSet(t *testing.T, what string, s *bitmap.Set, n int, in []int) {
	t.Helper()
	if s.Len() != n || s.Count() != len(in) {
		t.Errorf("%s: Len %d, Count %d, want %d, %d", what, s.Len(), s.Count(), n, len(in))
	}
	if got := slices.Collect(s.Each()); !slices.Equal(got, in) {
		t.Errorf("%s: Each tells %v, want %v", what, got, in)
	}
	bytes := make([]byte, (n+7)/8)
	next := 0
	for i := range n {
		has := next < len(in) && in[next] == i
		if has {
			next++
			bytes[i/8] |= 1 << (i % 8)
		}
		if s.Has(i) != has {
			t.Errorf("%s: Has(%d) is %v", what, i, !has)
		}
	}
	if got := s.Told(); got != string(bytes) {
		t.Errorf("%s: Told is % x, want % x", what, got, bytes)
	}
}

// outside are ints that may not be in a set with the bound n.
func outside(n int) []int {
	return []int{math.MinInt, math.MinInt32, -65, -64, -1, n, n + 1, n + 64, api.MaxBits, api.MaxBits + 1, math.MaxInt32, math.MaxInt - 63, math.MaxInt}
}

// P3.1: New of each bound is empty.
func TestNew(t *testing.T) {
	for _, n := range bounds() {
		wantSet(t, "New", made(t, n), n, nil)
	}
}

// P3.1: bounds that are none; ErrArg goes ahead of ErrForm.
func TestBoundsThatAreNone(t *testing.T) {
	for _, n := range []int{math.MinInt, -64, -8, -7, -1, api.MaxBits + 1, api.MaxBits + 8, math.MaxInt - 6, math.MaxInt} {
		if s, e := bitmap.New(n); s != nil || e != api.ErrArg {
			t.Errorf("New(%d): %v, %v", n, s, e)
		}
		for _, text := range []string{"", "\x00", "\xff\xff", string(make([]byte, 8193))} {
			if s, e := bitmap.From(n, text); s != nil || e != api.ErrArg {
				t.Errorf("From(%d, %d bytes): %v, %v", n, len(text), s, e)
			}
		}
	}
}

// P3.2, P3.5: the examples, one behind the other.
func TestExamples(t *testing.T) {
	s := made(t, 10)
	for _, c := range []struct {
		call string
		e    api.Errno
		want api.Errno
	}{
		{"Put(3)", s.Put(3), api.OK},
		{"Put(9)", s.Put(9), api.OK},
		{"Put(10)", s.Put(10), api.ErrArg},
		{"Put(-1)", s.Put(-1), api.ErrArg},
	} {
		if c.e != c.want {
			t.Errorf("%s: %v, want %v", c.call, c.e, c.want)
		}
	}
	wantSet(t, "Put", s, 10, []int{3, 9})
	if s.Told() != "\x08\x02" {
		t.Errorf("Told is % x", s.Told())
	}
	for _, c := range []struct {
		call string
		do   func() api.Errno
		want api.Errno
		in   []int
	}{
		{"Fill(8, 10)", func() api.Errno { return s.Fill(8, 10) }, api.OK, []int{3, 8, 9}},
		{"Fill(10, 10)", func() api.Errno { return s.Fill(10, 10) }, api.OK, []int{3, 8, 9}},
		{"Fill(5, 4)", func() api.Errno { return s.Fill(5, 4) }, api.ErrArg, []int{3, 8, 9}},
		{"Fill(0, 11)", func() api.Errno { return s.Fill(0, 11) }, api.ErrArg, []int{3, 8, 9}},
		{"Take(8)", func() api.Errno { return s.Take(8) }, api.OK, []int{3, 9}},
		{"Take(8) again", func() api.Errno { return s.Take(8) }, api.OK, []int{3, 9}},
		{"Or of 10", func() api.Errno { return s.Or(made(t, 10, 9, 0)) }, api.OK, []int{0, 3, 9}},
		{"Or of 11", func() api.Errno { return s.Or(made(t, 11, 9, 1)) }, api.ErrArg, []int{0, 3, 9}},
		{"Or of nil", func() api.Errno { return s.Or(nil) }, api.ErrNil, []int{0, 3, 9}},
	} {
		if e := c.do(); e != c.want {
			t.Errorf("%s: %v, want %v", c.call, e, c.want)
		}
		wantSet(t, c.call, s, 10, c.in)
	}
}

// P3.2: each number goes in and out alone, and once more changes nothing.
func TestPutAndTake(t *testing.T) {
	for _, n := range []int{1, 8, 9, 64, 65, 130} {
		s, all := made(t, n), made(t, n)
		rest := make([]int, n)
		for i := range n {
			rest[i] = i
		}
		all.Fill(0, n)
		for i := range n {
			for range 2 {
				if e := s.Put(i); e != api.OK {
					t.Errorf("Put(%d) of %d: %v", i, n, e)
				}
				wantSet(t, "Put", s, n, []int{i})
				if e := all.Take(i); e != api.OK {
					t.Errorf("Take(%d) of %d: %v", i, n, e)
				}
				wantSet(t, "Take", all, n, slices.Delete(slices.Clone(rest), i, i+1))
			}
			s.Take(i)
			all.Put(i)
		}
	}
}

// P3.2: numbers that may not be in are refused, and nothing is changed.
func TestPutAndTakeOutside(t *testing.T) {
	for _, n := range []int{0, 1, 8, 10, 63, 64, 65, 130, 65535} {
		empty, full := made(t, n), made(t, n)
		full.Fill(0, n)
		for _, i := range outside(n) {
			if e := empty.Put(i); e != api.ErrArg {
				t.Errorf("Put(%d) of %d: %v", i, n, e)
			}
			if e := full.Take(i); e != api.ErrArg {
				t.Errorf("Take(%d) of %d: %v", i, n, e)
			}
			if full.Has(i) {
				t.Errorf("Has(%d) of %d", i, n)
			}
		}
		if empty.Count() != 0 || full.Count() != n {
			t.Errorf("of %d: %d and %d are in", n, empty.Count(), full.Count())
		}
	}
	last := made(t, api.MaxBits)
	if last.Put(api.MaxBits-1) != api.OK || last.Put(api.MaxBits) != api.ErrArg || last.Count() != 1 {
		t.Error("Put at the greatest bound")
	}
}

// P3.2: Fill of each row, into what is there.
func TestFill(t *testing.T) {
	for _, n := range []int{0, 1, 8, 10, 64, 65, 130} {
		for from := range n + 1 {
			for below := from; below <= n; below++ {
				s := made(t, n)
				in := []int{}
				for i := range n {
					if i%7 == 3 {
						s.Put(i)
					}
					if i%7 == 3 || from <= i && i < below {
						in = append(in, i)
					}
				}
				if e := s.Fill(from, below); e != api.OK {
					t.Fatalf("Fill(%d, %d) of %d: %v", from, below, n, e)
				}
				if !slices.Equal(slices.Collect(s.Each()), in) || s.Count() != len(in) {
					t.Fatalf("Fill(%d, %d) of %d: %v, want %v", from, below, n, slices.Collect(s.Each()), in)
				}
			}
		}
	}
	for _, n := range bounds() {
		s := made(t, n)
		if e := s.Fill(0, n); e != api.OK || s.Count() != n {
			t.Errorf("Fill(0, %d): %v, %d are in", n, e, s.Count())
		}
	}
}

// P3.2: rows that are none are refused, and nothing is changed.
func TestFillRefused(t *testing.T) {
	for _, n := range []int{0, 1, 10, 64, 65, 130} {
		s := made(t, n)
		for _, c := range [][2]int{
			{-1, n}, {-1, 0}, {-1, -1}, {math.MinInt, n}, {math.MinInt, math.MinInt}, {math.MinInt, math.MaxInt},
			{0, n + 1}, {n, n + 1}, {n + 1, n + 1}, {n + 1, n}, {0, math.MaxInt}, {math.MaxInt, math.MaxInt},
			{math.MaxInt, n}, {n, n - 1}, {0, -1}, {n, math.MinInt}, {math.MaxInt, math.MinInt},
		} {
			if e := s.Fill(c[0], c[1]); e != api.ErrArg {
				t.Errorf("Fill(%d, %d) of %d: %v", c[0], c[1], n, e)
			}
		}
		wantSet(t, "Fill refused", s, n, nil)
	}
}

// P3.2: Clear takes all out and leaves the bound.
func TestClear(t *testing.T) {
	for _, n := range bounds() {
		s := made(t, n)
		s.Fill(0, n)
		s.Clear()
		wantSet(t, "Clear", s, n, nil)
		s.Clear()
		if e := s.Fill(n/2, n); e != api.OK || s.Count() != n-n/2 {
			t.Errorf("Fill behind Clear of %d: %v, %d are in", n, e, s.Count())
		}
	}
}

// P3.3: Next from any int.
func TestNext(t *testing.T) {
	s := made(t, 10, 3, 9)
	far := made(t, api.MaxBits, 0, 63, 64, 700, api.MaxBits-1)
	for _, c := range []struct {
		s        *bitmap.Set
		from, at int
		ok       bool
	}{
		{s, -5, 3, true}, {s, math.MinInt, 3, true}, {s, 0, 3, true}, {s, 3, 3, true}, {s, 4, 9, true}, {s, 9, 9, true},
		{s, 10, 0, false}, {s, 11, 0, false}, {s, 64, 0, false}, {s, math.MaxInt, 0, false}, {s, math.MaxInt - 63, 0, false},
		{far, -1, 0, true}, {far, 0, 0, true}, {far, 1, 63, true}, {far, 63, 63, true}, {far, 64, 64, true}, {far, 65, 700, true},
		{far, 701, api.MaxBits - 1, true}, {far, api.MaxBits - 1, api.MaxBits - 1, true}, {far, api.MaxBits, 0, false},
		{made(t, 0), 0, 0, false}, {made(t, 0), -1, 0, false}, {made(t, 64), 0, 0, false}, {made(t, 200), 5, 0, false},
		{made(t, 64, 63), 64, 0, false}, {made(t, 65, 64), 0, 64, true}, {made(t, 65, 0), 1, 0, false},
	} {
		if at, ok := c.s.Next(c.from); at != c.at || ok != c.ok {
			t.Errorf("Next(%d) of %d: %d, %v, want %d, %v", c.from, c.s.Len(), at, ok, c.at, c.ok)
		}
	}
}

// P3.4, R8: Each tells what was in at the call, whatever is done behind it, ahead of a round or in its midst.
func TestEachAsItWas(t *testing.T) {
	for _, do := range []func(s *bitmap.Set){
		func(s *bitmap.Set) { s.Clear() },
		func(s *bitmap.Set) { s.Put(4); s.Put(70) },
		func(s *bitmap.Set) { s.Take(64); s.Take(129) },
		func(s *bitmap.Set) { s.Fill(0, 130) },
		func(s *bitmap.Set) { s.Minus(s) },
		func(s *bitmap.Set) { s.And(made(t, 130, 63)) },
		func(s *bitmap.Set) { s.Or(made(t, 130, 1, 128)) },
	} {
		want := []int{0, 3, 63, 64, 129}
		s := made(t, 130, want...)
		each := s.Each()
		in := []int{}
		for i := range each {
			in = append(in, i)
			do(s)
		}
		if !slices.Equal(in, want) || !slices.Equal(slices.Collect(each), want) {
			t.Errorf("Each tells %v, then %v", in, slices.Collect(each))
		}
		if slices.Equal(slices.Collect(s.Each()), want) {
			t.Error("a later Each tells what was in earlier")
		}
	}
}

// P3.4, R8: one round within another, and a round that is left anywhere.
func TestEachRounds(t *testing.T) {
	want := []int{0, 3, 63, 64, 129}
	each := made(t, 130, want...).Each()
	for at := range want {
		told := []int{}
		for i := range each {
			told = append(told, i)
			if !slices.Equal(slices.Collect(each), want) {
				t.Fatal("a round within another one is not whole")
			}
			if len(told) == at+1 {
				break
			}
		}
		if !slices.Equal(told, want[:at+1]) {
			t.Errorf("a round left behind %d: %v", at, told)
		}
	}
	calls := 0
	each(func(int) bool { calls++; return false })
	if calls != 1 {
		t.Errorf("a round that is left goes on: %d calls", calls)
	}
	for range made(t, 0).Each() {
		t.Error("something is in a set with the Len 0")
	}
}

// P3.6: a copy is another set.
func TestCopy(t *testing.T) {
	for _, n := range []int{0, 1, 10, 64, 130, 4096} {
		s := made(t, n)
		s.Fill(n/3, n)
		c := s.Copy()
		if c == s || !c.Same(s) || !s.Same(c) || c.Len() != n {
			t.Fatalf("the copy of a set of %d is not the Same", n)
		}
		want := slices.Collect(s.Each())
		c.Clear()
		wantSet(t, "the set behind its copy's Clear", s, n, want)
		c.Fill(0, n)
		s.Clear()
		if c.Count() != n || s.Count() != 0 {
			t.Errorf("of %d: the copy has %d behind Clear of the set", n, c.Count())
		}
	}
}

// P3.6: Same asks for the Len and each number.
func TestSame(t *testing.T) {
	for _, n := range []int{0, 1, 10, 63, 64, 65, 130} {
		s := made(t, n)
		if !s.Same(s) || !s.Same(made(t, n)) || s.Same(made(t, n+1)) || made(t, n+1).Same(s) || s.Same(nil) {
			t.Errorf("Same of an empty set of %d", n)
		}
		for i := range n {
			s.Put(i)
			if s.Same(made(t, n)) || made(t, n).Same(s) || !s.Same(made(t, n, i)) || s.Same(made(t, n+1, i)) {
				t.Errorf("Same of %d in a set of %d", i, n)
			}
			s.Take(i)
		}
	}
}

// R1: a nil set answers ErrNil, and zeros else.
func TestNilSet(t *testing.T) {
	var s *bitmap.Set
	o := made(t, 10, 3)
	for i, e := range []api.Errno{
		s.Put(0), s.Put(-1), s.Take(0), s.Take(-1), s.Fill(0, 0), s.Fill(-1, -2),
		s.Or(o), s.And(o), s.Minus(o), s.Or(nil), s.And(nil), s.Minus(nil), o.And(nil), o.Minus(nil), o.Or(nil),
	} {
		if e != api.ErrNil {
			t.Errorf("call %d: %v", i, e)
		}
	}
	s.Clear()
	if at, ok := s.Next(0); at != 0 || ok {
		t.Errorf("Next: %d, %v", at, ok)
	}
	for range s.Each() {
		t.Error("Each tells something")
	}
	if s.Len() != 0 || s.Count() != 0 || s.Has(0) || s.Copy() != nil || s.Told() != "" || s.Same(nil) || s.Same(o) || s.Same(made(t, 0)) {
		t.Error("a nil set answers something")
	}
	wantSet(t, "the other one", o, 10, []int{3})
}

// The zero Set is the set with the Len 0.
func TestZeroSet(t *testing.T) {
	s := &bitmap.Set{}
	wantSet(t, "the zero Set", s, 0, nil)
	if !s.Same(made(t, 0)) || !made(t, 0).Same(s) || !s.Copy().Same(s) {
		t.Error("the zero Set is not the Same as New(0)")
	}
	if s.Put(0) != api.ErrArg || s.Take(0) != api.ErrArg || s.Fill(0, 0) != api.OK || s.Fill(0, 1) != api.ErrArg {
		t.Error("the zero Set takes what it may not")
	}
	if s.Or(made(t, 0)) != api.OK || s.And(s) != api.OK || s.Minus(made(t, 1)) != api.ErrArg {
		t.Error("the zero Set with others")
	}
	s.Clear()
}

// R2: sets do not see one another.
func TestSetsAreApart(t *testing.T) {
	a, b := made(t, 100, 1, 99), made(t, 100, 2)
	wantSet(t, "the one", a, 100, []int{1, 99})
	wantSet(t, "the other", b, 100, []int{2})
	b.Clear()
	wantSet(t, "the one", a, 100, []int{1, 99})
}
