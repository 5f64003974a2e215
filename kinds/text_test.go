package kinds_test

import (
	"math"
	"math/rand"
	"strings"
	"testing"

	"concord/api"
	"concord/kinds"
)

// wantPrinted holds what Print tells against the oracle, and looks whether Parse reads it.
func wantPrinted(t *testing.T, what, value string) string {
	t.Helper()
	want, e := wantPrint(value)
	got, f := kinds.Print(value)
	if got != want || f != e {
		t.Errorf("%s: Print(% x) is %q, %v, want %q, %v", what, value[:min(len(value), 50)], got, f, want, e)
	}
	if e != api.OK {
		return ""
	}
	if back, e := kinds.Parse(want); back != value || e != api.OK {
		t.Errorf("%s: Parse(%q) is % x, %v, want % x", what, want, back, e, value)
	}
	return got
}

// wantParsed holds what Parse reads against the oracle: a value whose text it is, or nothing.
func wantParsed(t *testing.T, what, text string) {
	t.Helper()
	got, e := kinds.Parse(text)
	if !isText(text) {
		if got != "" || e != api.ErrForm {
			t.Errorf("%s: Parse(%.200q) is % x, %v", what, text, got, e)
		}
		return
	}
	if told, f := wantPrint(got); told != text || e != api.OK || f != api.OK {
		t.Errorf("%s: Parse(%q) is % x, %v, whose text is %q", what, text, got, e, told)
	}
}

// P12.6, P12.8: values at their edges there and back; unlike ones have unlike texts; others have none.
func TestPrint(t *testing.T) {
	texts := map[string]string{}
	for what, value := range values() {
		text := wantPrinted(t, what, value)
		if other, is := texts[text]; is && other != value {
			t.Errorf("% x and % x: %q", value, other, text)
		}
		texts[text] = value
		wantParsed(t, what, text)
	}
	for what, value := range none() {
		if text, e := kinds.Print(value); text != "" || e != api.ErrKind {
			t.Errorf("%s: Print is %q, %v", what, text, e)
		}
		wantPrinted(t, what, value)
	}
}

// P12.6: the texts of floats, told by hand.
func TestFloatTexts(t *testing.T) {
	for text, x := range map[string]float64{
		"nan":                      math.NaN(),
		"inf":                      inf,
		"-inf":                     -inf,
		"0":                        0,
		"-0":                       negativeNought,
		"0x1p+0":                   1,
		"-0x1p+0":                  -1,
		"0x1p+1":                   2,
		"0x1.8p+1":                 3,
		"0x1p-1":                   0.5,
		"0x1.4p+3":                 10,
		"0x1p+10":                  1024,
		"0x1p-10":                  1.0 / 1024,
		"0x1p+100":                 0x1p100,
		"0x1.999999999999ap-4":     0.1,
		"-0x1.5bf0a8b145769p+1":    -math.E,
		"0x1.0000000000001p+0":     math.Nextafter(1, 2),
		"0x1.fffffffffffffp-1":     math.Nextafter(1, 0),
		"0x1.0000000001p+0":        1 + 0x1p-40,
		"0x1.fffffffffffffp+1023":  math.MaxFloat64,
		"0x1p+1023":                0x1p1023,
		"0x1p-1022":                0x1p-1022,
		"-0x1p-1022":               -0x1p-1022,
		"0x1p-1021":                0x1p-1021,
		"0x1.0000000000001p-1022":  0x1.0000000000001p-1022,
		"0x0.fffffffffffffp-1022":  0x0.fffffffffffffp-1022,
		"0x0.8p-1022":              0x1p-1023,
		"0x0.08p-1022":             0x1p-1027,
		"0x0.0000000000001p-1022":  0x1p-1074,
		"-0x0.0000000000001p-1022": -0x1p-1074,
		"0x0.000000000001p-1022":   0x1p-1070,
		"-0x0.123456789abcdp-1022": -0x0.123456789abcdp-1022,
		"-0x1.fedcba9876543p-1000": -0x1.fedcba9876543p-1000,
		"-0x1.fffffffffffffp+1023": -math.MaxFloat64,
		"-0x0.fffffffffffffp-1022": -0x0.fffffffffffffp-1022,
		"-0x0.1p-1022":             -0x0.1p-1022,
		"0x1.8p+0":                 1.5,
		"-0x1.8p+0":                -1.5,
		"0x1.8p-1022":              0x1.8p-1022,
		"-0x0.8p-1022":             -0x1p-1023,
	} {
		for value, want := range map[string]string{kinds.Real(x): "real " + text, kinds.Corner(complex(x, 1)): "corner " + text + " 0x1p+0", kinds.Corner(complex(1, x)): "corner 0x1p+0 " + text} {
			if got, e := kinds.Print(value); got != want || e != api.OK {
				t.Errorf("Print(% x) is %q, %v, want %q", value, got, e, want)
			}
			if got, e := kinds.Parse(want); got != value || e != api.OK {
				t.Errorf("Parse(%q) is % x, %v", want, got, e)
			}
		}
	}
}

// P12.6: of floats with each exponent, and with each one of the bits behind, there and back.
func TestEveryExponent(t *testing.T) {
	for exponent := range uint64(2048) {
		for _, behind := range []uint64{0, 1, 1 << 51, 1<<52 - 1, 0x123456789abcd} {
			for sign := range uint64(2) {
				x := math.Float64frombits(sign<<63 | exponent<<52 | behind)
				wantPrinted(t, "an exponent", "\x02"+floatBytes(x))
			}
		}
	}
	for bit := range 52 {
		wantPrinted(t, "a bit", "\x02"+floatBytes(math.Float64frombits(1<<bit)))
		wantPrinted(t, "a bit", "\x02"+floatBytes(math.Float64frombits(1023<<52|1<<bit)))
	}
}

// noTexts are texts that are no value's.
func noTexts() []string {
	l := []string{
		"", " ", "  ", "\x00", "\x01\x01", "value", "Flag on", "flag", "flag ", "flag  on", " flag on", "flag on ", "flag on off", "flag off on", "flag on on", "flag On", "flag ON", "flag true", "flag 1", "flag\ton", "flag\non", "flag on\n", "flagon", "on", "off",
		"real", "real ", "real  0", "real 0 ", "real 0 0", "real 1", "real 1.5", "real +0", "real 00", "real 0.0", "real NaN", "real Nan", "real -nan", "real +nan", "real Inf", "real +inf", "real infinity", "real -Infinity", "real --0", "real 1e400", "real -1e400", "real 1e-400", "real 0x",
		"real 0x1", "real 0x1p", "real 0x1p+", "real 0x1p0", "real 0x1p-0", "real 0x1p+00", "real 0x1p+01", "real 0x1p-01", "real 0x1.p+0", "real 0x1.0p+0", "real 0x1.80p+0", "real 0x2p+0", "real 0x3p+0", "real 0xfp+0", "real 0x10p+0", "real 0x01p+0", "real 0x.8p+0", "real 0x0p+0", "real 0x0p-1022", "real 0x0.8p+0", "real 0x0.8p-1021", "real 0x0.8p-1023", "real 0x0.80p-1022", "real 0x0.0p-1022", "real -0x0p+0",
		"real 0X1p+0", "real 0x1P+0", "real 0x1.Ap+0", "real 0x1.Fp+0", "real +0x1p+0", "real 0x1.00000000000001p+0", "real 0x1.00000000000008p+0", "real 0x1.fffffffffffff8p+0", "real 0x1.80000000000000p+0", "real 0x0.00000000000008p-1022", "real 0x1p-1023", "real 0x1p-1074", "real 0x1p-1075", "real 0x1p+1024", "real 0x1p+99999999999999999999", "real 0x1p-99999999999999999999", "real 0x1_0p+0", "real 0x_1p+0", "real 0x1.8_0p+0", "real 0x1p+1_0", "real 1p+0", "real -", "real x", "real 0x1p+0x", "real 0x1.gp+0", "real 0x1..8p+0",
		"corner", "corner ", "corner 0", "corner 0 ", "corner  0 0", "corner 0  0", "corner 0 0 0", "corner 0 0 ", "corner 0 0x1p0", "corner 0x1p0 0", "corner 0+0", "corner 0,0", "corner (0+0i)", "corner 0 x", "corner nan NaN",
		"tally ", "tally  1+1-0", "tally 1", "tally 1+1", "tally 1-1", "tally 1+1-", "tally 1+-1", "tally +1-1", "tally 0+1-0", "tally 6+1-0", "tally 10+1-0", "tally 65537+1-0", "tally 257+1-0", "tally 01+1-0", "tally 1+01-0", "tally 1+1-00", "tally 1+0-0", "tally 1+1-0 2+0-0", "tally 1+1-0 1+1-0", "tally 1+1-0 1+1-1", "tally 2+1-0 1+1-0", "tally 4+0-2 1+3-0", "tally 1+65536-0", "tally 1+0-65536", "tally 1+99999999999999999999-0", "tally 1++1-0", "tally 1+1--0", "tally 1+1-+0", "tally 1+1-0-0", "tally 1+1+1-0", "tally 1+1-0 ", "tally 1-0+1", "tally 1+a-0", "tally 1+0x1-0", "tally 1 + 1 - 0", "tally 1+1-0,2+1-0", "tally 1+1_0-0", "tally x", "tally 1+1-0 x",
		"runes ", "runes  41", "runes 41 ", "runes 41  42", "runes 0041", "runes 041", "runes 00", "runes 42 41", "runes 41 41", "runes 0 0", "runes 41 42 41", "runes E9", "runes d800", "runes dbff", "runes dc00", "runes dfff", "runes 110000", "runes 1000000", "runes 100000041", "runes 10000000000000041", "runes -1", "runes +41", "runes 0x41", "runes A", "runes g", "runes U+41", "runes 4_1", "runes 41,42", "runes \u00e9", "runes fffd d800", "runes d800 fffd", "runes fffd fffd", "runes ffffffff",
		"runes" + wordsOf(rising('0', 40)), "runes" + wordsOf(rising('0', 41)), "runes" + wordsOf(rising('0', 42)), "runes" + wordsOf(rising(0x80, 20)), "runes" + wordsOf(rising(0x800, 14)), "runes" + wordsOf(rising(0x10000, 10)), "runes" + wordsOf(rising('0', 39)) + " 100",
	}
	for _, name := range []string{"real", "corner", "flag", "tally", "runes"} {
		l = append(l, strings.ToUpper(name)+" 0", name[1:], name+"s", " "+name, name+"\x00", name+" \x00", name+"\t0", name+strings.Repeat(" ", 1_000_000), name+strings.Repeat(" 0", 100_000), name+" "+strings.Repeat("0", 1_000_000), name+" "+strings.Repeat("1", 100_000), name+" 0x1."+strings.Repeat("0", 100_000)+"p+0")
	}
	return l
}

// wordsOf are the words of runes, a blank ahead of each.
func wordsOf(l []rune) string {
	text, _ := wantPrint("\x04")
	for _, x := range l {
		one, _ := wantPrint("\x04" + string(x))
		text += strings.TrimPrefix(one, "runes")
	}
	return strings.TrimPrefix(text, "runes")
}

// P12.6: texts that are no value's.
func TestParseNone(t *testing.T) {
	for _, text := range noTexts() {
		if isText(text) {
			t.Errorf("the oracle takes %.200q for a text", text)
		}
		wantParsed(t, "none", text)
	}
}

// P12.6: the longest texts.
func TestParseLong(t *testing.T) {
	for _, text := range []string{
		"runes" + wordsOf(rising('0', 39)),
		"runes" + wordsOf(rising(0x7f-38, 39)),
		"tally 1+65535-65535 2+65535-65535 3+65535-65535 4+65535-65535 5+65535-65535",
		"corner -0x0.fffffffffffffp-1022 -0x0.123456789abcdp-1022",
	} {
		if value, e := kinds.Parse(text); value == "" || e != api.OK {
			t.Errorf("Parse(%q): % x, %v", text, value, e)
		}
		wantParsed(t, "long", text)
	}
}

// P12.6: of some texts every beginning, every letter left out, turned into some other one, or put between.
func TestTurnedTexts(t *testing.T) {
	const others = " 0123456789abcdefgpxinolr+-._AFP\x00\t\xff"
	for _, text := range []string{"flag on", "flag off", "real 0", "real -0", "real nan", "real -inf", "real 0x1p+0", "real -0x1.8p-10", "real 0x0.0000000000001p-1022", "real 0x1.fffffffffffffp+1023", "corner 0 -0", "corner 0x1.8p+1 -0x1p-1", "tally", "tally 1+3-0 4+0-2", "tally 5+65535-65535", "runes", "runes 0", "runes 41 e9", "runes d7ff e000 10ffff", "runes" + wordsOf(rising('0', 39))} {
		for at := range text {
			wantParsed(t, "cut", text[:at])
			wantParsed(t, "left out", text[:at]+text[at+1:])
			for i := range others {
				wantParsed(t, "turned", text[:at]+others[i:i+1]+text[at+1:])
				wantParsed(t, "put between", text[:at]+others[i:i+1]+text[at:])
			}
		}
		for i := range others {
			wantParsed(t, "more", text+others[i:i+1])
		}
	}
}

// P12.6, P12.8: drawn values there and back, and their texts with some letters changed.
func TestDrawnTexts(t *testing.T) {
	r := rand.New(rand.NewSource(1206))
	texts := map[string]string{}
	still := 0
	for range 30_000 {
		value := drawn(r)
		text := wantPrinted(t, "drawn", value)
		if other, is := texts[text]; is && other != value {
			t.Errorf("% x and % x: %q", value, other, text)
		}
		texts[text] = value
		for range 1 + r.Intn(2) {
			at := r.Intn(len(text) + 1)
			text = text[:at] + []string{"", " ", "0", "1", "8", "a", "f", "+", "-", ".", "p", text[r.Intn(at+1):at]}[r.Intn(12)] + text[min(at+r.Intn(2), len(text)):]
		}
		if isText(text) {
			still++
		}
		wantParsed(t, "drawn", text)
		wantPrinted(t, "drawn", drawnText(r))
	}
	if still < 1000 || still > 27_000 {
		t.Errorf("%d of the changed texts are a value's", still)
	}
}
