package sketch_test

import (
	"slices"
	"testing"

	"concord/api"
	"concord/sketch"
)

// P16.1: the chapter's first example.
func TestExampleSegment(t *testing.T) {
	if n := sketch.Segment(sketch.Item(entry{Key: "a", Sum: "x"})); n != 2005 {
		t.Errorf("a's segment: %d", n)
	}
	for item, want := range map[uint64]int{1<<64 - 1: 65535, 1 << 48: 1} {
		if n := sketch.Segment(item); n != want {
			t.Errorf("Segment(%d): %d", item, n)
		}
	}
}

// P16.2: the second.
func TestExampleNew(t *testing.T) {
	for _, n := range []int{2, 257} {
		if s, e := sketch.New(n); s != nil || e != api.ErrArg {
			t.Errorf("New(%d): %v, %v", n, s, e)
		}
	}
	if s, e := sketch.From(make([]cell, 2)); s != nil || e != api.ErrArg {
		t.Errorf("From of two: %v, %v", s, e)
	}
	for _, x := range items() {
		one := cell{Count: 1, Item: x, Check: wantCheck(x)}
		has(t, sum(t, 5, []uint64{x}, nil), []cell{one, one, one, {}, {}})
	}
}

// P16.3, P16.5: the third.
func TestExampleAdd(t *testing.T) {
	s := made(t, 3)
	s.Add(7)
	for _, c := range s.Cells() {
		if c.Count != 1 || c.Item != 7 || c.Check != 0x673e29cb {
			t.Errorf("7: %v", c)
		}
	}
	s.Add(9)
	for _, c := range s.Cells() {
		if c.Count != 2 || c.Item != 14 {
			t.Errorf("7 and 9: %v", c)
		}
	}
	s.Take(7)
	for _, c := range s.Cells() {
		if c.Count != 1 || c.Item != 9 {
			t.Errorf("9: %v", c)
		}
	}
	peels(t, s, peeled{more: []uint64{9}, whole: true})
	s.Add(7)
	s.Add(5)
	peels(t, s, peeled{})
	if c := s.Cells()[0]; c.Count != 3 {
		t.Errorf("three items: %v", c)
	}
}

// P16.4, P16.5: the fourth.
func TestExampleMinus(t *testing.T) {
	l := many(100, "a")
	d := minus(t, of(t, l, 30), of(t, l, 30))
	has(t, d, make([]cell, 30))
	peels(t, d, peeled{whole: true})
	if m, e := of(t, l, 30).Minus(made(t, 31)); m != nil || e != api.ErrSketch {
		t.Errorf("Minus of 31: %v, %v", m, e)
	}
}

// P16.5: the fifth.
func TestExampleTake(t *testing.T) {
	s := made(t, 3)
	s.Take(7)
	if c := s.Cells(); len(c) != 3 || slices.ContainsFunc(c, func(c cell) bool { return c.Count != -1 }) {
		t.Errorf("7 taken: %v", c)
	}
	peels(t, s, peeled{less: []uint64{7}, whole: true})
}
