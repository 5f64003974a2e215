package kinds_test

import (
	"math"
	"math/rand"
	"testing"

	"concord/api"
	"concord/kinds"
)

// steps are some that a tally steps by.
func steps() []int16 {
	return []int16{math.MinInt16, math.MinInt16 + 1, -256, -255, -2, -1, 0, 1, 2, 255, 256, math.MaxInt16 - 1, math.MaxInt16}
}

// wantStepped holds what Step answers against the oracle.
func wantStepped(t *testing.T, what, value string, replica uint8, by int16) {
	t.Helper()
	want, e := wantStep(value, replica, int(by))
	if got, f := kinds.Step(value, replica, by); got != want || f != e {
		t.Errorf("%s: Step(% x, %d, %d) is % x, %v, want % x, %v", what, value[:min(len(value), 50)], replica, by, got, f, want, e)
	}
}

// P12.5: values at their edges, and others, by steps at their edges, of replicas that may be and others.
func TestStep(t *testing.T) {
	all, others := values(), none()
	for _, replica := range []uint8{0, 1, 2, 3, 4, 5, 6, 7, 128, 129, 255} {
		for _, by := range steps() {
			for what, value := range all {
				wantStepped(t, what, value, replica, by)
			}
			for what, value := range others {
				wantStepped(t, what, value, replica, by)
			}
		}
	}
}

// P12.5: every step there is, of nobody's tally; up and down are two counts.
func TestEveryStep(t *testing.T) {
	for by := math.MinInt16; by <= math.MaxInt16; by++ {
		wantStepped(t, "nobody's", kinds.Tally(), 3, int16(by))
		value, e := kinds.Step("\x03\x03\x00\x07\x00\x09", 3, int16(by))
		n, f := kinds.AsTally(value)
		if n != int32(by)-2 || e != api.OK || f != api.OK {
			t.Fatalf("Step by %d: % x, %v; %d, %v", by, value, e, n, f)
		}
	}
}

// P12.5: about the end of either count.
func TestStepAtTheEnd(t *testing.T) {
	for _, c := range []struct {
		value string
		by    int16
		want  string
		e     api.Errno
	}{
		{"\x03\x05\xff\xff\x00\x00", 0, "\x03\x05\xff\xff\x00\x00", api.OK},
		{"\x03\x05\xff\xff\xff\xff", 0, "\x03\x05\xff\xff\xff\xff", api.OK},
		{"\x03\x05\xff\xff\x00\x00", 1, "", api.ErrEnd},
		{"\x03\x05\xff\xff\x00\x00", -1, "\x03\x05\xff\xff\x00\x01", api.OK},
		{"\x03\x05\x00\x00\xff\xff", -1, "", api.ErrEnd},
		{"\x03\x05\x00\x00\xff\xff", 1, "\x03\x05\x00\x01\xff\xff", api.OK},
		{"\x03\x05\xff\xfe\x00\x00", 1, "\x03\x05\xff\xff\x00\x00", api.OK},
		{"\x03\x05\xff\xfe\x00\x00", 2, "", api.ErrEnd},
		{"\x03\x05\x80\x00\x00\x00", 32767, "\x03\x05\xff\xff\x00\x00", api.OK},
		{"\x03\x05\x80\x01\x00\x00", 32767, "", api.ErrEnd},
		{"\x03\x05\x00\x00\x7f\xff", -32768, "\x03\x05\x00\x00\xff\xff", api.OK},
		{"\x03\x05\x00\x00\x80\x00", -32768, "", api.ErrEnd},
		{"\x03\x04\xff\xff\xff\xff", 1, "\x03\x04\xff\xff\xff\xff\x05\x00\x01\x00\x00", api.OK},
	} {
		if got, e := kinds.Step(c.value, 5, c.by); got != c.want || e != c.e {
			t.Errorf("Step(% x, 5, %d): % x, %v", c.value, c.by, got, e)
		}
	}
}

// P12.5: of several errors the first.
func TestStepErrors(t *testing.T) {
	full := values()["tally of all at end"]
	for _, c := range []struct {
		value   string
		replica uint8
		by      int16
		e       api.Errno
	}{
		{"", 0, 1, api.ErrKind},
		{"\x01\x01", 6, 1, api.ErrKind},
		{"\x03\x06\x00\x01\x00\x00", 6, 1, api.ErrKind},
		{full, 0, 1, api.ErrArg},
		{full, 6, -1, api.ErrArg},
		{full, 5, -1, api.ErrEnd},
		{full, 1, 1, api.ErrEnd},
	} {
		if got, e := kinds.Step(c.value, c.replica, c.by); got != "" || e != c.e {
			t.Errorf("Step(% x, %d, %d): % x, %v", c.value, c.replica, c.by, got, e)
		}
	}
}

// P12.5, P12.8: rows of drawn steps; each goes upward.
func TestDrawnSteps(t *testing.T) {
	r := rand.New(rand.NewSource(1205))
	ended := 0
	for range 2000 {
		value := drawnTally(r)
		for range 20 {
			replica, by := uint8(r.Intn(7)), int16(r.Intn(65536))
			if r.Intn(2) == 0 {
				by = steps()[r.Intn(len(steps()))]
			}
			wantStepped(t, "drawn", value, replica, by)
			next, e := kinds.Step(value, replica, by)
			if e == api.ErrEnd {
				ended++
			}
			if e != api.OK {
				continue
			}
			if !kinds.Below(value, next) || kinds.Below(next, value) != (by == 0) {
				t.Fatalf("Step(% x, %d, %d): % x is not above it", value, replica, by, next)
			}
			value = next
		}
	}
	if ended < 1000 || ended > 30_000 {
		t.Errorf("%d steps met the end", ended)
	}
}
