package wire_test

import (
	"encoding/hex"
	"math"
	"strings"
	"testing"

	"concord/api"
	"concord/wire"
)

// bytesOf reads hexadecimal digits, blanks between them.
func bytesOf(t *testing.T, digits string) string {
	t.Helper()
	b, err := hex.DecodeString(strings.ReplaceAll(digits, " ", ""))
	if err != nil {
		t.Fatal(err)
	}
	return string(b)
}

// put is what a new writer tells behind some puts.
func put(f func(w *wire.Writer)) string {
	w := wire.NewWriter()
	f(w)
	return w.Told()
}

// P1.1: a new writer holds nothing.
func TestNewWriterHoldsNothing(t *testing.T) {
	w := wire.NewWriter()
	if w == nil || w.Len() != 0 || w.Told() != "" {
		t.Fatal("a new writer holds something")
	}
}

// P1.1: the form of each kind, with example 1.
func TestForms(t *testing.T) {
	for _, x := range []struct {
		name string
		want string
		put  func(w *wire.Writer)
	}{
		{"Byte(7)", "07", func(w *wire.Writer) { w.Byte(7) }},
		{"Byte(0)", "00", func(w *wire.Writer) { w.Byte(0) }},
		{"Byte(255)", "FF", func(w *wire.Writer) { w.Byte(255) }},
		{"Small(-2)", "FF FE", func(w *wire.Writer) { w.Small(-2) }},
		{"Small(0)", "00 00", func(w *wire.Writer) { w.Small(0) }},
		{"Small(258)", "01 02", func(w *wire.Writer) { w.Small(258) }},
		{"Small, the least", "80 00", func(w *wire.Writer) { w.Small(math.MinInt16) }},
		{"Small, the greatest", "7F FF", func(w *wire.Writer) { w.Small(math.MaxInt16) }},
		{"Fixed(258, 3)", "00 01 02", func(w *wire.Writer) { w.Fixed(258, 3) }},
		{"Text(ab)", "02 61 62", func(w *wire.Writer) { w.Text("ab") }},
		{"Text()", "00", func(w *wire.Writer) { w.Text("") }},
		{"Text of any bytes", "03 00 FF 80", func(w *wire.Writer) { w.Text("\x00\xff\x80") }},
		{"Raw(ab)", "61 62", func(w *wire.Writer) { w.Raw("ab") }},
		{"Raw()", "", func(w *wire.Writer) { w.Raw("") }},
	} {
		if got := put(x.put); got != bytesOf(t, x.want) {
			t.Errorf("%s: % X, want %s", x.name, got, x.want)
		}
	}
}

// P1.1: a text's length has more than one digit from 128 bytes on.
func TestLongTextForm(t *testing.T) {
	for n, front := range map[int]string{127: "7F", 128: "80 01", 300: "AC 02", 16384: "80 80 01"} {
		s := strings.Repeat("q", n)
		if got := put(func(w *wire.Writer) { w.Text(s) }); got != bytesOf(t, front)+s {
			t.Errorf("a text of %d bytes has another form", n)
		}
	}
}

// P1.1: uints, as short as they can be.
func TestUintForm(t *testing.T) {
	for v, want := range map[uint64]string{
		0: "00", 1: "01", 127: "7F", 128: "80 01", 300: "AC 02", 16383: "FF 7F", 16384: "80 80 01",
		1<<63 - 1:      "FF FF FF FF FF FF FF FF 7F",
		1 << 63:        "80 80 80 80 80 80 80 80 80 01",
		math.MaxUint64: "FF FF FF FF FF FF FF FF FF 01",
	} {
		if got := put(func(w *wire.Writer) { w.Uint(v) }); got != bytesOf(t, want) {
			t.Errorf("Uint(%d): % X, want %s", v, got, want)
		}
	}
}

// P1.1: ints, by turns above and below 0.
func TestIntForm(t *testing.T) {
	for v, want := range map[int64]string{
		0: "00", -1: "01", 1: "02", -2: "03", 63: "7E", -64: "7F", 64: "80 01", -65: "81 01",
		math.MaxInt64: "FE FF FF FF FF FF FF FF FF 01",
		math.MinInt64: "FF FF FF FF FF FF FF FF FF 01",
	} {
		if got := put(func(w *wire.Writer) { w.Int(v) }); got != bytesOf(t, want) {
			t.Errorf("Int(%d): % X, want %s", v, got, want)
		}
	}
}

// P1.1: floats by their bits; all NaNs have one form.
func TestFloatForm(t *testing.T) {
	for bits, want := range map[uint64]string{
		math.Float64bits(1):               "3F F0 00 00 00 00 00 00",
		0:                                 "00 00 00 00 00 00 00 00",
		1 << 63:                           "80 00 00 00 00 00 00 00",
		1:                                 "00 00 00 00 00 00 00 01",
		math.Float64bits(math.Inf(1)):     "7F F0 00 00 00 00 00 00",
		math.Float64bits(math.Inf(-1)):    "FF F0 00 00 00 00 00 00",
		math.Float64bits(math.MaxFloat64): "7F EF FF FF FF FF FF FF",
		math.Float64bits(-math.Pi):        "C0 09 21 FB 54 44 2D 18",
		math.Float64bits(math.NaN()):      "7F F8 00 00 00 00 00 00",
		0x7FF8000000000000:                "7F F8 00 00 00 00 00 00",
		0x7FF0000000000001:                "7F F8 00 00 00 00 00 00",
		0xFFF8000000000000:                "7F F8 00 00 00 00 00 00",
		0xFFFFFFFFFFFFFFFF:                "7F F8 00 00 00 00 00 00",
		1 << 52:                           "00 10 00 00 00 00 00 00",
	} {
		if got := put(func(w *wire.Writer) { w.Float(math.Float64frombits(bits)) }); got != bytesOf(t, want) {
			t.Errorf("Float of %X: % X, want %s", bits, got, want)
		}
	}
}

// P1.1: each put lays its bytes behind those that are there; Len and Told go with them.
func TestPutsStandBehindOneAnother(t *testing.T) {
	w := wire.NewWriter()
	other := wire.NewWriter()
	want := ""
	for _, x := range []struct {
		put  func()
		adds string
	}{
		{func() { w.Byte(7) }, "\x07"},
		{func() { w.Small(-2) }, "\xff\xfe"},
		{func() { w.Fixed(258, 3) }, "\x00\x01\x02"},
		{func() { w.Uint(300) }, "\xac\x02"},
		{func() { w.Int(64) }, "\x80\x01"},
		{func() { w.Float(1) }, "\x3f\xf0\x00\x00\x00\x00\x00\x00"},
		{func() { w.Text("ab") }, "\x02ab"},
		{func() { w.Raw("cd") }, "cd"},
	} {
		ahead := w.Told()
		x.put()
		if ahead != want {
			t.Errorf("what was told has changed: % X", ahead)
		}
		want += x.adds
		if w.Told() != want || w.Told() != want || w.Len() != len(want) {
			t.Fatalf("told % X of %d bytes, want % X", w.Told(), w.Len(), want)
		}
	}
	if other.Len() != 0 || other.Told() != "" {
		t.Error("another writer has seen these puts")
	}
}

// P1.2: Fixed takes 1 to 8 bytes, and what goes into them.
func TestFixedBounds(t *testing.T) {
	for n := 1; n <= 8; n++ {
		most := uint64(math.MaxUint64) >> (64 - 8*n)
		w := wire.NewWriter()
		if e := w.Fixed(most, n); e != api.OK || w.Told() != strings.Repeat("\xff", n) {
			t.Errorf("Fixed(%X, %d): %d, % X", most, n, e, w.Told())
		}
		if e := w.Fixed(1, n); e != api.OK || w.Told() != strings.Repeat("\xff", n)+strings.Repeat("\x00", n-1)+"\x01" {
			t.Errorf("Fixed(1, %d): %d, % X", n, e, w.Told())
		}
		if n < 8 {
			mustRefuse(t, most+1, n)
			mustRefuse(t, math.MaxUint64, n)
		}
	}
}

// P1.2: other widths are refused, whatever the number is.
func TestFixedWrongWidths(t *testing.T) {
	for _, n := range []int{0, -1, 9, 16, 64, math.MaxInt, math.MinInt, math.MinInt + 1} {
		mustRefuse(t, 0, n)
		mustRefuse(t, math.MaxUint64, n)
	}
}

// mustRefuse wants ErrArg, and nothing put.
func mustRefuse(t *testing.T, v uint64, n int) {
	t.Helper()
	w := wire.NewWriter()
	w.Raw("ab")
	if e := w.Fixed(v, n); e != api.ErrArg || w.Told() != "ab" || w.Len() != 2 {
		t.Errorf("Fixed(%X, %d): %d, % X", v, n, e, w.Told())
	}
}

// P1.6: a nil writer.
func TestNilWriter(t *testing.T) {
	var w *wire.Writer
	w.Byte(1)
	w.Small(1)
	w.Uint(300)
	w.Int(-1)
	w.Float(1)
	w.Text("ab")
	w.Raw("ab")
	if e := w.Fixed(1, 1); e != api.ErrNil {
		t.Error("Fixed(1, 1):", e)
	}
	if e := w.Fixed(256, 1); e != api.ErrNil {
		t.Error("Fixed(256, 1):", e)
	}
	if e := w.Fixed(0, -1); e != api.ErrNil {
		t.Error("Fixed(0, -1):", e)
	}
	if w.Len() != 0 || w.Told() != "" {
		t.Error("a nil writer holds something")
	}
}

// R1: a writer that was not made by NewWriter does not panic.
func TestMadeWriter(t *testing.T) {
	w := new(wire.Writer)
	w.Text("ab")
	w.Fixed(math.MaxUint64, math.MinInt)
	w.Len()
	w.Told()
}
