package kinds_test

import (
	"math"
	"slices"
	"testing"

	"concord/api"
	"concord/kinds"
)

// P12.1: the chapter's first two examples.
func TestExampleKind(t *testing.T) {
	for _, c := range []struct {
		value string
		want  uint8
	}{
		{"\x01\x01", kinds.KindFlag},
		{"\x01\x02", 0},
		{"", 0},
		{"\x02" + noughts, kinds.KindReal},
		{"\x03", kinds.KindTally},
		{"\x04\x41\x42", kinds.KindRunes},
		{"\x04\x42\x41", 0},
		{"\x02\x7f\xf8\x00\x00\x00\x00\x00\x00", kinds.KindReal},
		{"\x02\x7f\xf8\x00\x00\x00\x00\x00\x01", 0},
	} {
		if got := kinds.Kind(c.value); got != c.want {
			t.Errorf("Kind(% x) is %d", c.value, got)
		}
	}
}

// P12.2: the third, the fourth and the last of the joins.
func TestExampleJoin(t *testing.T) {
	for i, c := range []struct {
		a, b, want string
		e          api.Errno
	}{
		{kinds.Real(1), kinds.Real(math.NaN()), kinds.Real(math.NaN()), api.OK},
		{kinds.Real(0), kinds.Real(negativeNought), kinds.Real(0), api.OK},
		{kinds.Real(-1), kinds.Real(1), kinds.Real(1), api.OK},
		{kinds.Flag(true), kinds.Real(1), "", api.ErrKind},
		{kinds.Flag(true), "\x01\x02", "", api.ErrKind},
		{kinds.Corner(1 + 2i), kinds.Corner(3 - 1i), kinds.Corner(3 + 2i), api.OK},
	} {
		if got, e := kinds.Join(c.a, c.b); got != c.want || e != c.e {
			t.Errorf("row %d: % x, %v", i, got, e)
		}
	}
}

// P12.4, P12.5: the steps.
func TestExampleStep(t *testing.T) {
	one, e := kinds.Step(kinds.Tally(), 2, 3)
	two, f := kinds.Step(one, 1, -32768)
	if one != "\x03\x02\x00\x03\x00\x00" || e != api.OK || two != "\x03\x01\x00\x00\x80\x00\x02\x00\x03\x00\x00" || f != api.OK {
		t.Errorf("% x, %v; % x, %v", one, e, two, f)
	}
	if n, e := kinds.AsTally(two); n != -32765 || e != api.OK {
		t.Errorf("AsTally: %d, %v", n, e)
	}
	one, _ = kinds.Step(kinds.Tally(), 2, 32767)
	two, e = kinds.Step(one, 2, 32767)
	three, f := kinds.Step(two, 2, 32767)
	if two != "\x03\x02\xff\xfe\x00\x00" || e != api.OK || three != "" || f != api.ErrEnd {
		t.Errorf("three times: % x, %v; % x, %v", two, e, three, f)
	}
	for _, c := range []struct {
		value   string
		replica uint8
		by      int16
		want    string
		e       api.Errno
	}{
		{kinds.Tally(), 6, 1, "", api.ErrArg},
		{kinds.Tally(), 6, 0, "", api.ErrArg},
		{kinds.Flag(true), 1, 1, "", api.ErrKind},
		{kinds.Tally(), 1, 0, kinds.Tally(), api.OK},
	} {
		if got, e := kinds.Step(c.value, c.replica, c.by); got != c.want || e != c.e {
			t.Errorf("Step(% x, %d, %d): % x, %v", c.value, c.replica, c.by, got, e)
		}
	}
}

// P12.3: the sets of runes.
func TestExampleRunes(t *testing.T) {
	for _, c := range []struct {
		l    []rune
		want string
		e    api.Errno
	}{
		{[]rune{0xe9, 0x41, 0xe9}, "\x04\x41\xc3\xa9", api.OK},
		{[]rune{0xd800}, "", api.ErrArg},
		{[]rune{-1}, "", api.ErrArg},
		{slices.Repeat([]rune{0x10ffff}, 10), "\x04\xf4\x8f\xbf\xbf", api.OK},
		{rising(0x10000, 10), "", api.ErrBig},
	} {
		if got, e := kinds.Runes(c.l); got != c.want || e != c.e {
			t.Errorf("Runes(%x): % x, %v", c.l, got, e)
		}
	}
}

// P12.6: the texts.
func TestExampleTexts(t *testing.T) {
	for _, c := range []struct{ value, text string }{
		{kinds.Real(1), "real 0x1p+0"},
		{kinds.Real(-0.75), "real -0x1.8p-1"},
		{kinds.Real(0x1p-1074), "real 0x0.0000000000001p-1022"},
		{kinds.Real(math.NaN()), "real nan"},
		{kinds.Flag(false), "flag off"},
		{kinds.Tally(), "tally"},
		{kinds.Corner(complex(0, negativeNought)), "corner 0 -0"},
		{"\x03\x01\x00\x03\x00\x00\x04\x00\x00\x00\x02", "tally 1+3-0 4+0-2"},
		{"\x04A\xc3\xa9", "runes 41 e9"},
	} {
		if got, e := kinds.Print(c.value); got != c.text || e != api.OK {
			t.Errorf("Print(% x): %q, %v", c.value, got, e)
		}
		if got, e := kinds.Parse(c.text); got != c.value || e != api.OK {
			t.Errorf("Parse(%q): % x, %v", c.text, got, e)
		}
	}
	for _, text := range []string{"real 0x1.80p+0", "tally 4+0-2 1+3-0", "runes 0041", "flag"} {
		if got, e := kinds.Parse(text); got != "" || e != api.ErrForm {
			t.Errorf("Parse(%q): % x, %v", text, got, e)
		}
	}
}
