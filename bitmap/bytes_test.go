package bitmap_test

import (
	"strings"
	"testing"

	"concord/api"
	"concord/bitmap"
)

// P3.1, P3.6: the examples, and lengths that are one off.
func TestFrom(t *testing.T) {
	for _, c := range []struct {
		n    int
		text string
		e    api.Errno
		in   []int
	}{
		{10, "\x08\x02", api.OK, []int{3, 9}},
		{10, "\x08\x04", api.ErrForm, nil},
		{10, "\x08\x80", api.ErrForm, nil},
		{10, "\x08\x12", api.ErrForm, nil},
		{10, "\x08", api.ErrForm, nil},
		{10, "", api.ErrForm, nil},
		{10, "\x08\x02\x00", api.ErrForm, nil},
		{9, "\x08\x02", api.ErrForm, nil},
		{9, "\x08\x01", api.OK, []int{3, 8}},
		{0, "", api.OK, nil},
		{0, "\x00", api.ErrForm, nil},
		{0, "\x01", api.ErrForm, nil},
		{1, "\x01", api.OK, []int{0}},
		{1, "\x02", api.ErrForm, nil},
		{8, "\x80", api.OK, []int{7}},
		{8, "\x80\x00", api.ErrForm, nil},
		{64, strings.Repeat("\x00", 7) + "\x80", api.OK, []int{63}},
		{65, strings.Repeat("\x00", 8) + "\x01", api.OK, []int{64}},
		{65, strings.Repeat("\x00", 8) + "\x02", api.ErrForm, nil},
		{65, strings.Repeat("\x00", 8), api.ErrForm, nil},
		{72, strings.Repeat("\x00", 8) + "\x81", api.OK, []int{64, 71}},
		{api.MaxBits, strings.Repeat("\x00", 8191) + "\x80", api.OK, []int{api.MaxBits - 1}},
		{api.MaxBits, strings.Repeat("\x00", 8192) + "\x80", api.ErrForm, nil},
		{api.MaxBits - 1, strings.Repeat("\x00", 8191) + "\x80", api.ErrForm, nil},
		{api.MaxBits - 1, strings.Repeat("\x00", 8191) + "\x40", api.OK, []int{api.MaxBits - 2}},
	} {
		s, e := bitmap.From(c.n, c.text)
		if e != c.e || (s == nil) != (e != api.OK) {
			t.Errorf("From(%d, %d bytes): %v, %v, want %v", c.n, len(c.text), s, e, c.e)
			continue
		}
		if e == api.OK {
			wantSet(t, "From", s, c.n, c.in)
		}
	}
}

// P3.1: of each bound, every bit of the last byte is refused or a number, as it stands for none or one.
func TestFromLastByte(t *testing.T) {
	for n := 1; n <= 200; n++ {
		size := (n + 7) / 8
		for bit := range 8 {
			text := strings.Repeat("\x00", size-1) + string([]byte{1 << bit})
			s, e := bitmap.From(n, text)
			at := (size-1)*8 + bit
			if at >= n {
				if s != nil || e != api.ErrForm {
					t.Errorf("From(%d) with the bit of %d: %v, %v", n, at, s, e)
				}
				continue
			}
			if e != api.OK {
				t.Fatalf("From(%d) with the bit of %d: %v", n, at, e)
			}
			wantSet(t, "From", s, n, []int{at})
		}
	}
}

// P3.6: no bit of no number is told, whatever was done.
func TestToldOfFull(t *testing.T) {
	for _, n := range bounds() {
		s := made(t, n)
		s.Fill(0, n)
		want := strings.Repeat("\xff", n/8)
		if n%8 != 0 {
			want += string([]byte{1<<(n%8) - 1})
		}
		if got := s.Told(); got != want {
			t.Errorf("Told of a full set of %d: %d bytes, want %d", n, len(got), len(want))
		}
	}
}
