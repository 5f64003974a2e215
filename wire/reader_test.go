package wire_test

import (
	"math"
	"strings"
	"testing"

	"concord/api"
	"concord/wire"
)

// taking are all the calls that take, with arguments that are right for ten bytes 01; each says whether it answered zero.
func taking(r *wire.Reader) map[string]func() bool {
	return map[string]func() bool{
		"Byte":  func() bool { return r.Byte() == 0 },
		"Small": func() bool { return r.Small() == 0 },
		"Fixed": func() bool { return r.Fixed(3) == 0 },
		"Uint":  func() bool { return r.Uint(9) == 0 },
		"Int":   func() bool { return r.Int() == 0 },
		"Float": func() bool { return r.Float() == 0 },
		"Text":  func() bool { return r.Text(9) == "" },
		"Raw":   func() bool { return r.Raw(2) == "" },
	}
}

// stands wants a reader to stand at a place, with an error.
func stands(t *testing.T, what string, r *wire.Reader, at, left int, e api.Errno) {
	t.Helper()
	if r.At() != at || r.Left() != left || r.Err() != e {
		t.Errorf("%s: at %d, left %d, error %d; want %d, %d, %d", what, r.At(), r.Left(), r.Err(), at, left, e)
	}
}

// P1.3: a new reader, and how it goes on.
func TestReaderGoesOn(t *testing.T) {
	s := "\x07\xff\xfe\x00\x01\x02\xac\x02\x80\x01\x3f\xf0\x00\x00\x00\x00\x00\x00\x02abcd"
	r := wire.NewReader(s)
	stands(t, "new", r, 0, len(s), api.OK)
	for _, x := range []struct {
		name string
		take func() bool
		used int
	}{
		{"Byte", func() bool { return r.Byte() == 7 }, 1},
		{"Small", func() bool { return r.Small() == -2 }, 2},
		{"Fixed", func() bool { return r.Fixed(3) == 258 }, 3},
		{"Uint", func() bool { return r.Uint(300) == 300 }, 2},
		{"Int", func() bool { return r.Int() == 64 }, 2},
		{"Float", func() bool { return r.Float() == 1 }, 8},
		{"Text", func() bool { return r.Text(2) == "ab" }, 3},
		{"Raw, none", func() bool { return r.Raw(0) == "" }, 0},
		{"Raw", func() bool { return r.Raw(2) == "cd" }, 2},
	} {
		at := r.At() + x.used
		if !x.take() {
			t.Errorf("%s took another thing", x.name)
		}
		stands(t, x.name, r, at, len(s)-at, api.OK)
	}
	if r.End() != api.OK {
		t.Error("End:", r.End())
	}
}

// P1.3: behind an error nothing is taken, all answers are zero, and the error stays.
func TestReaderStopsAtItsFirstError(t *testing.T) {
	ones := strings.Repeat("\x01", 10)
	for name := range taking(nil) {
		r := wire.NewReader(ones)
		if taking(r)[name]() || r.At() == 0 {
			t.Errorf("%s takes nothing of a good reader", name)
		}
		r = wire.NewReader(ones)
		r.Byte()
		r.Fail(api.ErrSketch)
		if !taking(r)[name]() {
			t.Errorf("%s takes behind an error", name)
		}
		stands(t, name, r, 1, 9, api.ErrSketch)
	}
	r := wire.NewReader("\x03ab")
	r.Text(9)
	for _, wrong := range []func(){func() { r.Fixed(9) }, func() { r.Text(-1) }, func() { r.Raw(-1) }, func() { r.Raw(9) }} {
		wrong()
		stands(t, "wrong calls behind an error", r, 0, 3, api.ErrShort)
	}
}

// P1.3: two readers of the same bytes do not see one another.
func TestReadersApart(t *testing.T) {
	a, b := wire.NewReader("ab"), wire.NewReader("ab")
	a.Byte()
	a.Raw(-1)
	stands(t, "the other one", b, 0, 2, api.OK)
}

// refused wants a call to take nothing, to answer zero and to note an error, at the front and behind other bytes.
func refused(t *testing.T, what, s string, e api.Errno, take func(r *wire.Reader) bool) {
	t.Helper()
	for at := range 3 {
		r := wire.NewReader("xy"[:at] + s)
		r.Raw(at)
		if !take(r) {
			t.Errorf("%s of % X: not zero", what, s)
		}
		stands(t, what, r, at, len(s), e)
		if r.End() != e {
			t.Errorf("%s of % X: End %d", what, s, r.End())
		}
	}
}

// P1.4: Byte, Small, Float and Fixed of too few bytes.
func TestShortKinds(t *testing.T) {
	refused(t, "Byte", "", api.ErrShort, func(r *wire.Reader) bool { return r.Byte() == 0 })
	refused(t, "Small", "", api.ErrShort, func(r *wire.Reader) bool { return r.Small() == 0 })
	refused(t, "Small", "\x01", api.ErrShort, func(r *wire.Reader) bool { return r.Small() == 0 })
	for n := range 8 {
		s := "\x7f\xf8\x00\x00\x00\x00\x00\x01"[:n]
		refused(t, "Float", s, api.ErrShort, func(r *wire.Reader) bool { return r.Float() == 0 })
		for m := n + 1; m <= 8; m++ {
			refused(t, "Fixed", s, api.ErrShort, func(r *wire.Reader) bool { return r.Fixed(m) == 0 })
		}
	}
}

// P1.4: Small has a sign.
func TestTakenSmall(t *testing.T) {
	for s, want := range map[string]int16{"\x00\x00": 0, "\xff\xfe": -2, "\x80\x00": math.MinInt16, "\x7f\xff": math.MaxInt16, "\x01\x02": 258} {
		r := wire.NewReader(s)
		if v := r.Small(); v != want || r.End() != api.OK {
			t.Errorf("Small of % X: %d, %d", s, v, r.End())
		}
	}
}

// P1.4: Fixed of all widths, and of wrong ones.
func TestTakenFixed(t *testing.T) {
	s := "\x81\x02\x03\x04\x05\x06\x07\x08"
	for n := 1; n <= 8; n++ {
		r := wire.NewReader(s)
		if v := r.Fixed(n); v != 0x8102030405060708>>(64-8*n) {
			t.Errorf("Fixed(%d): %X", n, v)
		}
		stands(t, "Fixed", r, n, 8-n, api.OK)
	}
	for _, n := range []int{0, -1, 9, math.MaxInt, math.MinInt} {
		refused(t, "Fixed", s+s, api.ErrArg, func(r *wire.Reader) bool { return r.Fixed(n) == 0 })
		refused(t, "Fixed", "", api.ErrArg, func(r *wire.Reader) bool { return r.Fixed(n) == 0 })
	}
}

// P1.4: of all NaNs only one is taken (example 5).
func TestTakenFloats(t *testing.T) {
	for _, s := range []string{
		"7F F8 00 00 00 00 00 01", "FF F8 00 00 00 00 00 00", "7F F0 00 00 00 00 00 01",
		"7F F7 FF FF FF FF FF FF", "7F FF FF FF FF FF FF FF", "FF FF FF FF FF FF FF FF", "FF F0 00 00 00 00 00 01",
	} {
		refused(t, "Float", bytesOf(t, s), api.ErrForm, func(r *wire.Reader) bool { return r.Float() == 0 })
	}
	r := wire.NewReader(bytesOf(t, "7F F8 00 00 00 00 00 00"))
	if v := r.Float(); !math.IsNaN(v) || r.End() != api.OK {
		t.Error("the NaN:", v, r.End())
	}
	for s, bits := range map[string]uint64{
		"80 00 00 00 00 00 00 00": 1 << 63, "7F F0 00 00 00 00 00 00": math.Float64bits(math.Inf(1)),
		"FF F0 00 00 00 00 00 00": math.Float64bits(math.Inf(-1)), "00 00 00 00 00 00 00 01": 1,
		"7F EF FF FF FF FF FF FF": math.Float64bits(math.MaxFloat64),
	} {
		r := wire.NewReader(bytesOf(t, s))
		if v := r.Float(); math.Float64bits(v) != bits || r.End() != api.OK {
			t.Errorf("Float of %s: %v, %d", s, v, r.End())
		}
	}
}

// P1.4: Uint (example 2 among these).
func TestTakenUints(t *testing.T) {
	nine, noughts := strings.Repeat("FF", 9), strings.Repeat("80", 9)
	for _, x := range []struct {
		s    string
		most uint64
		v    uint64
		e    api.Errno
	}{
		{"00", 0, 0, api.OK},
		{"7F", 127, 127, api.OK},
		{"80 01", 128, 128, api.OK},
		{"AC 02", 300, 300, api.OK},
		{"AC 02", math.MaxUint64, 300, api.OK},
		{"AC 02", 299, 0, api.ErrLong},
		{"01", 0, 0, api.ErrLong},
		{"", 9, 0, api.ErrShort},
		{"", 0, 0, api.ErrShort},
		{"80", 9, 0, api.ErrShort},
		{"FF FF", 0, 0, api.ErrShort},
		{nine, 9, 0, api.ErrShort},
		{noughts, 9, 0, api.ErrShort},
		{"80 00", 9, 0, api.ErrLong},
		{"AC 82 00", 300, 0, api.ErrLong},
		{noughts + "00", math.MaxUint64, 0, api.ErrLong},
		{noughts + "01", math.MaxUint64, 1 << 63, api.OK},
		{noughts + "01", 1<<63 - 1, 0, api.ErrLong},
		{nine + "01", math.MaxUint64, math.MaxUint64, api.OK},
		{nine + "01", math.MaxUint64 - 1, 0, api.ErrLong},
		{nine + "02", math.MaxUint64, 0, api.ErrLong},
		{nine + "80", math.MaxUint64, 0, api.ErrLong},
		{nine + "81", math.MaxUint64, 0, api.ErrLong},
		{nine + "FF", math.MaxUint64, 0, api.ErrLong},
		{nine + "FF 00", math.MaxUint64, 0, api.ErrLong},
	} {
		s := bytesOf(t, x.s)
		if x.e != api.OK {
			refused(t, "Uint", s, x.e, func(r *wire.Reader) bool { return r.Uint(x.most) == 0 })
			continue
		}
		r := wire.NewReader(s + "\x81")
		if v := r.Uint(x.most); v != x.v {
			t.Errorf("Uint(%d) of %s: %d", x.most, x.s, v)
		}
		stands(t, x.s, r, len(s), 1, api.OK)
	}
}

// P1.4: Int.
func TestTakenInts(t *testing.T) {
	nine := strings.Repeat("FF", 9)
	for s, want := range map[string]int64{
		"00": 0, "01": -1, "02": 1, "7E": 63, "7F": -64, "80 01": 64, "81 01": -65,
		"FE" + nine[2:] + "01": math.MaxInt64, nine + "01": math.MinInt64,
	} {
		r := wire.NewReader(bytesOf(t, s))
		if v := r.Int(); v != want || r.End() != api.OK {
			t.Errorf("Int of %s: %d, %d", s, v, r.End())
		}
	}
	for s, e := range map[string]api.Errno{"": api.ErrShort, "80": api.ErrShort, nine: api.ErrShort, "80 00": api.ErrLong, nine + "02": api.ErrLong, nine + "FF": api.ErrLong} {
		refused(t, "Int", bytesOf(t, s), e, func(r *wire.Reader) bool { return r.Int() == 0 })
	}
}

// P1.4: Text (example 3 among these).
func TestTakenTexts(t *testing.T) {
	for _, x := range []struct {
		s    string
		most int
		want string
	}{{"\x00", 0, ""}, {"\x02ab", 2, "ab"}, {"\x02ab", math.MaxInt, "ab"}, {"\x80\x01" + strings.Repeat("q", 128), 128, strings.Repeat("q", 128)}} {
		r := wire.NewReader(x.s + "z")
		if s := r.Text(x.most); s != x.want {
			t.Errorf("Text(%d) of % X: %q", x.most, x.s, s)
		}
		stands(t, "Text", r, len(x.s), 1, api.OK)
	}
	for _, x := range []struct {
		s    string
		most int
		e    api.Errno
	}{
		{"", 9, api.ErrShort},
		{"\x80", 9, api.ErrShort},
		{"\x03ab", 9, api.ErrShort},
		{"\x03ab", 3, api.ErrShort},
		{"\x01", 1, api.ErrShort},
		{"\x03abc", 2, api.ErrLong},
		{"\x03ab", 2, api.ErrLong},
		{"\x01a", 0, api.ErrLong},
		{"\x82\x00ab", 9, api.ErrLong},
		{strings.Repeat("\xff", 9) + "\x01", math.MaxInt, api.ErrLong},
		{"\xff\xff\xff\xff\xff\xff\xff\xff\x7f", math.MaxInt, api.ErrShort},
		{"\x00", -1, api.ErrArg},
		{"", -1, api.ErrArg},
		{"\x02ab", math.MinInt, api.ErrArg},
	} {
		refused(t, "Text", x.s, x.e, func(r *wire.Reader) bool { return r.Text(x.most) == "" })
	}
	r := wire.NewReader("\x03ab")
	r.Text(9)
	if r.Byte() != 0 || r.Err() != api.ErrShort {
		t.Error("behind a short text:", r.Err())
	}
}

// P1.4: Raw.
func TestTakenRaw(t *testing.T) {
	for n := range 4 {
		r := wire.NewReader("\x00\xffa")
		if s := r.Raw(n); s != "\x00\xffa"[:n] {
			t.Errorf("Raw(%d): % X", n, s)
		}
		stands(t, "Raw", r, n, 3-n, api.OK)
	}
	for n, e := range map[int]api.Errno{4: api.ErrShort, math.MaxInt: api.ErrShort, -1: api.ErrArg, math.MinInt: api.ErrArg} {
		refused(t, "Raw", "\x00\xffa", e, func(r *wire.Reader) bool { return r.Raw(n) == "" })
	}
	refused(t, "Raw", "", api.ErrArg, func(r *wire.Reader) bool { return r.Raw(-1) == "" })
}

// P1.5: example 4; End notes nothing, Fail only the first.
func TestFailAndEnd(t *testing.T) {
	r := wire.NewReader("\x01\x02")
	if v := r.Byte(); v != 1 {
		t.Error("Byte:", v)
	}
	if r.End() != api.ErrRest || r.End() != api.ErrRest || r.Err() != api.OK {
		t.Error("End:", r.End(), r.Err())
	}
	r.Fail(api.OK)
	stands(t, "Fail(OK)", r, 1, 1, api.OK)
	r.Fail(api.ErrForm)
	if r.Err() != api.ErrForm || r.End() != api.ErrForm || r.Byte() != 0 {
		t.Error("Fail:", r.Err(), r.End())
	}
	r.Fail(api.ErrArg)
	r.Fail(api.OK)
	stands(t, "Fail again", r, 1, 1, api.ErrForm)

	r = wire.NewReader("\x01\x02")
	r.End()
	if r.Byte() != 1 || r.Byte() != 2 || r.End() != api.OK {
		t.Error("behind an End:", r.Err(), r.End())
	}
	r.Fail(api.Errno(-7))
	if r.Err() != -7 || r.End() != -7 {
		t.Error("Fail at the end:", r.Err(), r.End())
	}
	if e := wire.NewReader("").End(); e != api.OK {
		t.Error("End of nothing:", e)
	}
}

// P1.6: a nil reader.
func TestNilReader(t *testing.T) {
	var r *wire.Reader
	for name, take := range taking(r) {
		if !take() {
			t.Errorf("%s is not zero", name)
		}
	}
	if r.Fixed(9) != 0 || r.Text(-1) != "" || r.Raw(-1) != "" {
		t.Error("wrong arguments: not zero")
	}
	r.Fail(api.ErrForm)
	if r.At() != 0 || r.Left() != 0 || r.Err() != api.ErrNil || r.End() != api.ErrNil {
		t.Error("a nil reader:", r.At(), r.Left(), r.Err(), r.End())
	}
}

// R1: a reader that was not made by NewReader does not panic.
func TestMadeReader(t *testing.T) {
	for name := range taking(nil) {
		r := new(wire.Reader)
		taking(r)[name]()
		r.Fail(api.ErrForm)
		r.End()
		r.Left()
	}
}
