package vector_test

import (
	"slices"
	"testing"

	"concord/api"
	"concord/vector"
	"concord/wire"
)

// P10.1: the chapter's first example.
func TestExampleValid(t *testing.T) {
	for _, v := range [][]api.Dot{nil, of(0, 1), of(1, 2, 3, 1)} {
		if !vector.Valid(v) {
			t.Errorf("Valid(%v) is false", v)
		}
	}
	for _, v := range [][]api.Dot{of(1, 0), of(3, 1, 1, 2), of(1, 1, 1, 2), of(1, 1099511627777), many(65, 1, 1, 1)} {
		if vector.Valid(v) {
			t.Errorf("Valid(%v) is true", v)
		}
	}
}

// P10.2: the second.
func TestExampleMax(t *testing.T) {
	if m, e := vector.Max(of(1, 2, 3, 1), of(1, 1, 2, 7)); e != api.OK || !slices.Equal(m, of(1, 2, 2, 7, 3, 1)) {
		t.Errorf("Max: %v, %v", m, e)
	}
	if m, e := vector.Max(many(64, 1, 1, 1), of(65, 1)); e != api.ErrBig || len(m) != 0 {
		t.Errorf("Max of 64 and another actor's: %v, %v", m, e)
	}
}

// P10.3: the third.
func TestExampleCompare(t *testing.T) {
	for _, c := range []struct {
		a, b []api.Dot
		want int8
	}{
		{of(1, 1), of(1, 2), -1},
		{of(1, 1, 2, 1), of(1, 1), 1},
		{of(1, 1), of(2, 1), 2},
		{nil, nil, 0},
		{of(1, 0), of(1, 0), 2},
	} {
		if got := vector.Compare(c.a, c.b); got != c.want {
			t.Errorf("Compare(%v, %v) is %d, want %d", c.a, c.b, got, c.want)
		}
	}
}

// P10.1, P10.4: the fourth.
func TestExampleCoversAndNext(t *testing.T) {
	for d, want := range map[api.Dot]bool{dot(1, 2): true, dot(1, 3): false, dot(1, 0): false, dot(2, 1): false} {
		if got := vector.Covers(of(1, 2), d); got != want {
			t.Errorf("Covers(1:2, %v) is %v", d, got)
		}
	}
	if d, e := vector.Next(of(1, 2), 1); d != dot(1, 3) || e != api.OK {
		t.Errorf("Next(1:2, 1): %v, %v", d, e)
	}
	if d, e := vector.Next(nil, 9); d != dot(9, 1) || e != api.OK {
		t.Errorf("Next(none, 9): %v, %v", d, e)
	}
	if d, e := vector.Next(of(1, 1099511627776), 1); d != dot(0, 0) || e != api.ErrEnd {
		t.Errorf("Next(1:1099511627776, 1): %v, %v", d, e)
	}
}

// P10.5, P10.6: the fifth.
func TestExampleBytes(t *testing.T) {
	const s = "\x02\x01\xac\x02\x02\x01"
	if got, e := vector.Encode(of(1, 300, 2, 1)); got != s || e != api.OK {
		t.Errorf("Encode: % x, %v", got, e)
	}
	for _, b := range []string{s + "\x00", s[:5], "\x01\x01\x00", "\x02\x02\x01\x01\x01"} {
		if v, e := vector.Decode(b); len(v) != 0 || e != api.ErrVector {
			t.Errorf("Decode(% x): %v, %v", b, v, e)
		}
	}
	for b, want := range map[string]api.Errno{"\x02\x02\x01\x01\x01": api.ErrVector, "\x41": api.ErrLong} {
		r := wire.NewReader(b)
		if v := vector.Take(r); len(v) != 0 || r.Err() != want {
			t.Errorf("Take from % x: %v, %v, want %v", b, v, r.Err(), want)
		}
	}
}
