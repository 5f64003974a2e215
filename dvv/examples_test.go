package dvv_test

import (
	"slices"
	"strings"
	"testing"

	"concord/api"
	"concord/dvv"
)

// P11.4: the chapter's first two examples.
func TestExamplePut(t *testing.T) {
	for _, c := range []struct{ on, ctx, value, want, dot string }{
		{"", "", "x", "1:1; 1:1=x", "1:1"},
		{"1:1; 1:1=x", "", "y", "1:2; 1:1=x 1:2=y", "1:2"},
		{"1:1; 1:1=x", "1:1", "y", "1:2; 1:2=y", "1:2"},
		{"", "2:5", "x", "1:1 2:5; 1:1=x", "1:1"},
		{"", "1:5", "x", "1:6; 1:6=x", "1:6"},
	} {
		s, d, e := dvv.Put(state(c.on), dots(c.ctx), 1, c.value, false)
		if !same(s, state(c.want)) || d != dots(c.dot)[0] || e != api.OK {
			t.Errorf("Put(%s, %s, 1, %s): %v, %v, %v", c.on, c.ctx, c.value, s, d, e)
		}
	}
}

// P11.2: the third.
func TestExampleJoin(t *testing.T) {
	for _, c := range []struct{ a, b, want string }{
		{"1:1; 1:1=x", "2:1; 2:1=y", "1:1 2:1; 1:1=x 2:1=y"},
		{"1:2; 1:2=y", "1:1; 1:1=x", "1:2; 1:2=y"},
		{"1:1; 1:1=x", "1:1;", "1:1;"},
		{"1:1; 1:1=b", "1:1; 1:1=a", "1:1; 1:1=a"},
		{"1:1; 1:1=b", "1:1; 1:1-", "1:1; 1:1-"},
	} {
		if s, e := dvv.Join(state(c.a), state(c.b)); !same(s, state(c.want)) || e != api.OK {
			t.Errorf("Join(%s, %s): %v, %v", c.a, c.b, s, e)
		}
	}
}

// P11.3: the fourth.
func TestExampleBelow(t *testing.T) {
	if !dvv.Below(state("1:1; 1:1=x"), state("1:2; 1:2=y")) || !dvv.Below(state("1:1; 1:1=b"), state("1:1; 1:1=a")) {
		t.Error("Below is false")
	}
	if dvv.Below(state("1:1; 1:1=x"), state("2:1; 2:1=y")) {
		t.Error("Below is true")
	}
}

// P11.5: the fifth.
func TestExampleValues(t *testing.T) {
	if got := dvv.Values(state("1:2 2:1; 1:1=b 1:2=a 2:1=b")); !slices.Equal(got, []string{"a", "b"}) {
		t.Errorf("Values: %q", got)
	}
	if got := dvv.Values(state("1:1; 1:1-")); len(got) != 0 {
		t.Errorf("Values of a gone one: %q", got)
	}
}

// P11.1, P11.4: the sixth.
func TestExampleRefused(t *testing.T) {
	long := strings.Repeat("x", 41)
	for _, s := range []api.State{
		state("1:1; 1:2=x"),
		state("1:2; 1:2=x 1:1=y"),
		{Seen: dots("1:1"), Siblings: []api.Sibling{{Dot: dots("1:1")[0], Gone: true, Value: "x"}}},
		state("1:1; 1:1=" + long),
	} {
		if dvv.Valid(s) {
			t.Errorf("Valid(%v) is true", s)
		}
	}
	if s, d, e := dvv.Put(state(""), nil, 1, long, false); !isZero(s) || d != (api.Dot{}) || e != api.ErrValue {
		t.Errorf("Put of 41 bytes: %v, %v, %v", s, d, e)
	}
	if s, d, e := dvv.Put(state(""), nil, 1, "x", true); !isZero(s) || d != (api.Dot{}) || e != api.ErrValue {
		t.Errorf("Put of a gone one with a value: %v, %v, %v", s, d, e)
	}
	if s, d, e := dvv.Put(state("1:1099511627776;"), nil, 1, "x", false); !isZero(s) || d != (api.Dot{}) || e != api.ErrEnd {
		t.Errorf("Put behind the last count: %v, %v, %v", s, d, e)
	}
}

// P11.6: the seventh.
func TestExampleBytes(t *testing.T) {
	const b = "\x01\x01\x01\x01\x01\x01\x00\x01\x78"
	if got, e := dvv.Encode(state("1:1; 1:1=x")); got != b || e != api.OK {
		t.Errorf("Encode: % x, %v", got, e)
	}
	if got, e := dvv.Decode(b); !same(got, state("1:1; 1:1=x")) || e != api.OK {
		t.Errorf("Decode: %v, %v", got, e)
	}
	for _, bad := range []string{b + "\x00", "\x01\x01\x01\x02\x01\x01\x00\x01\x78"} {
		if got, e := dvv.Decode(bad); !isZero(got) || e != api.ErrState {
			t.Errorf("Decode(% x): %v, %v", bad, got, e)
		}
	}
	if got, e := dvv.Encode(api.State{}); got != "\x00\x00" || e != api.OK {
		t.Errorf("Encode of absent: % x, %v", got, e)
	}
}
