package kinds_test

import (
	"math/rand"
	"testing"

	"concord/api"
	"concord/kinds"
)

// wantJoined holds what Join and Below answer against the oracle.
func wantJoined(t *testing.T, what, a, b string) {
	t.Helper()
	want, e := wantJoin(a, b)
	if got, f := kinds.Join(a, b); got != want || f != e {
		t.Errorf("%s: Join(% x, % x) is % x, %v, want % x, %v", what, a, b, got, f, want, e)
	}
	if got := kinds.Below(a, b); got != (e == api.OK && want == b) {
		t.Errorf("%s: Below(% x, % x) is %v", what, a, b, got)
	}
}

// P12.2: values at their edges, two by two, and with others.
func TestJoin(t *testing.T) {
	all := values()
	for what, a := range all {
		for other, b := range all {
			wantJoined(t, what+" and "+other, a, b)
		}
	}
	for what, a := range none() {
		if len(a) > 100 {
			a = a[:100]
		}
		for other, b := range all {
			wantJoined(t, what+" and "+other, a, b)
			wantJoined(t, other+" and "+what, b, a)
		}
		wantJoined(t, what+" with itself", a, a)
	}
}

// P12.2: what the joins of each kind are, told by hand.
func TestJoinByHand(t *testing.T) {
	for _, c := range []struct{ a, b, want string }{
		{"\x01\x00", "\x01\x00", "\x01\x00"},
		{"\x01\x00", "\x01\x01", "\x01\x01"},
		{"\x01\x01", "\x01\x00", "\x01\x01"},
		{"\x01\x01", "\x01\x01", "\x01\x01"},
		{"\x03", "\x03\x05\x00\x01\x00\x00", "\x03\x05\x00\x01\x00\x00"},
		{"\x03\x01\x00\x05\x00\x00", "\x03\x01\x00\x02\x00\x03", "\x03\x01\x00\x05\x00\x03"},
		{"\x03\x01\x00\xff\x01\x00", "\x03\x01\x01\x00\x00\xff", "\x03\x01\x01\x00\x01\x00"},
		{"\x03\x02\x00\x01\x00\x00\x04\x00\x00\x00\x01", "\x03\x01\x00\x01\x00\x00\x04\x00\x02\x00\x00", "\x03\x01\x00\x01\x00\x00\x02\x00\x01\x00\x00\x04\x00\x02\x00\x01"},
		{"\x04", "\x04", "\x04"},
		{"\x04AC", "\x04BC", "\x04ABC"},
		{"\x04\U0010ffff", "\x04\uffff", "\x04\uffff\U0010ffff"},
		{kinds.Corner(complex(negativeNought, 0)), kinds.Corner(complex(0, negativeNought)), kinds.Corner(0)},
		{kinds.Corner(complex(nans()[0], -1)), kinds.Corner(complex(inf, -inf)), kinds.Corner(complex(nans()[0], -1))},
	} {
		if got, e := kinds.Join(c.a, c.b); got != c.want || e != api.OK {
			t.Errorf("Join(% x, % x) is % x, %v", c.a, c.b, got, e)
		}
		wantJoined(t, "by hand", c.a, c.b)
	}
}

// P12.2: sets of runes whose join has 40 bytes, or one more; those that have much in common are none too big.
func TestJoinTooBig(t *testing.T) {
	for _, c := range []struct {
		a, b string
		e    api.Errno
	}{
		{"\x04" + letters(39), "\x04", api.OK},
		{"\x04" + letters(39), "\x04" + letters(39), api.OK},
		{"\x04" + letters(38), "\x04~", api.OK},
		{"\x04" + letters(39), "\x04~", api.ErrBig},
		{"\x04!", "\x04" + letters(39), api.ErrBig},
		{"\x04" + letters(39), "\x04" + string(rising(0x10000, 9)), api.ErrBig},
		{"\x04" + string(rising(0x10000, 9)), "\x04abc", api.OK},
		{"\x04" + string(rising(0x10000, 9)), "\x04abcd", api.ErrBig},
		{"\x04" + string(rising(0x10000, 5)), "\x04" + string(rising(0x10005, 5)), api.ErrBig},
		{"\x04" + string(rising(0x10000, 5)), "\x04" + string(rising(0x10004, 5)), api.OK},
		{"\x04" + letters(39), "\x01\x00", api.ErrKind},
	} {
		if _, e := kinds.Join(c.a, c.b); e != c.e {
			t.Errorf("Join(%q, %q): %v", c.a, c.b, e)
		}
		wantJoined(t, "about the bound", c.a, c.b)
		wantJoined(t, "about the bound", c.b, c.a)
	}
}

// P12.2: drawn ones, of one kind or any.
func TestJoinOfDrawn(t *testing.T) {
	r := rand.New(rand.NewSource(1202))
	told := map[api.Errno]int{}
	for range 100_000 {
		a, b := drawnText(r), drawnText(r)
		if r.Intn(4) > 0 {
			kind := 1 + r.Intn(5)
			a, b = drawnOf(r, kind), drawnOf(r, kind)
		}
		_, e := wantJoin(a, b)
		told[e]++
		wantJoined(t, "drawn", a, b)
	}
	if told[api.OK] < 10_000 || told[api.ErrKind] < 10_000 || told[api.ErrBig] < 1000 {
		t.Errorf("what was told: %v", told)
	}
}
