package digest_test

import (
	"crypto/sha256"
	"encoding/hex"
	"math"
	"strings"
	"testing"

	"concord/api"
	"concord/digest"
)

// P2.6: every width that there is.
func TestCut(t *testing.T) {
	for _, s := range []string{"", "abc", manyBytes(64), manyBytes(500)} {
		sum := sha256.Sum256([]byte(s))
		for width := 1; width <= 32; width++ {
			got, e := digest.Cut(s, width)
			if got != string(sum[:width]) || e != api.OK {
				t.Errorf("Cut(%d bytes, %d) = % X, %d", len(s), width, got, e)
			}
		}
	}
}

// P2.6: example 5.
func TestCutExamples(t *testing.T) {
	for _, c := range []struct {
		width int
		want  string
		e     api.Errno
	}{
		{1, "\xba", api.OK},
		{4, "\xba\x78\x16\xbf", api.OK},
		{0, "", api.ErrArg},
		{33, "", api.ErrArg},
		{-1, "", api.ErrArg},
		{math.MaxInt, "", api.ErrArg},
		{math.MinInt, "", api.ErrArg},
	} {
		if got, e := digest.Cut("abc", c.width); got != c.want || e != c.e {
			t.Errorf("Cut(abc, %d) = % X, %d, want % X, %d", c.width, got, e, c.want, c.e)
		}
	}
}

// P2.7: every byte, the higher half's digit first.
func TestHexOfBytes(t *testing.T) {
	var all []byte
	for b := range 256 {
		all = append(all, byte(b))
		if got, want := digest.Hex(string([]byte{byte(b)})), hex.EncodeToString([]byte{byte(b)}); got != want {
			t.Errorf("Hex(% X) = %q, want %q", b, got, want)
		}
	}
	if got := digest.Hex(string(all)); got != hex.EncodeToString(all) {
		t.Errorf("Hex of all bytes = %q", got)
	}
	if digest.Hex("") != "" || digest.Hex("\x00\xff") != "00ff" {
		t.Errorf("Hex of nothing %q, of 00 ff %q", digest.Hex(""), digest.Hex("\x00\xff"))
	}
}

// P2.7: example 6, and two digits of every kind.
func TestFromHex(t *testing.T) {
	const digits = "0123456789abcdef"
	if got, e := digest.FromHex("00ff"); got != "\x00\xff" || e != api.OK {
		t.Errorf("FromHex(00ff) = % X, %d", got, e)
	}
	if got, e := digest.FromHex(""); got != "" || e != api.OK {
		t.Errorf("FromHex of nothing = % X, %d", got, e)
	}
	for high := range 256 {
		for low := range 256 {
			s := string([]byte{byte(high), byte(low)})
			h, l := strings.IndexByte(digits, byte(high)), strings.IndexByte(digits, byte(low))
			want, errno := "", api.ErrForm
			if h >= 0 && l >= 0 {
				want, errno = string([]byte{byte(16*h + l)}), api.OK
			}
			if got, e := digest.FromHex(s); got != want || e != errno {
				t.Fatalf("FromHex(%q) = % X, %d, want % X, %d", s, got, e, want, errno)
			}
		}
	}
}

// P2.7: what is wrong at the end, and an odd number of digits; beside the error there is no text (R4).
func TestFromHexWrong(t *testing.T) {
	for _, s := range []string{"0", "0F", "0g", "000", "00f", "0x", "00 0", "zz", "0\x00", "abcdeF", "abcdé", "--", "+1", strings.Repeat("0", 99), strings.Repeat("0", 99) + "G"} {
		if got, e := digest.FromHex(s); got != "" || e != api.ErrForm {
			t.Errorf("FromHex(%q) = % X, %d", s, got, e)
		}
	}
}
