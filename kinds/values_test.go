package kinds_test

import (
	"math"
	"math/rand"
	"slices"
	"testing"

	"concord/api"
	"concord/kinds"
)

// sameFloat tells whether two floats are one, noughts with their signs, all NaNs as one.
func sameFloat(x, y float64) bool { return floatBytes(x) == floatBytes(y) }

// wantErrno is ErrKind, unless a text is of the kind.
func wantErrno(value string, kind uint8) api.Errno {
	if wantKind(value) == kind {
		return api.OK
	}
	return api.ErrKind
}

// wantRead holds what each As answers against the oracle.
func wantRead(t *testing.T, what, value string) {
	t.Helper()
	on, e := kinds.AsFlag(value)
	if e != wantErrno(value, 1) || on != (value == "\x01\x01") {
		t.Errorf("%s: AsFlag(% x) is %v, %v", what, value, on, e)
	}
	var x float64
	if wantKind(value) == 2 {
		x = floatOf(value[1:])
	}
	if got, e := kinds.AsReal(value); e != wantErrno(value, 2) || !sameFloat(got, x) {
		t.Errorf("%s: AsReal(% x) is %v, %v", what, value, got, e)
	}
	var sum int64
	var l []rune
	switch wantKind(value) {
	case 3:
		for _, c := range tallyOf(value[1:]) {
			sum += int64(c[0]) - int64(c[1])
		}
	case 4:
		l = []rune(value[1:])
	}
	if got, e := kinds.AsTally(value); e != wantErrno(value, 3) || int64(got) != sum {
		t.Errorf("%s: AsTally(% x) is %d, %v", what, value, got, e)
	}
	if got, e := kinds.AsRunes(value); e != wantErrno(value, 4) || !slices.Equal(got, l) {
		t.Errorf("%s: AsRunes(% x) is %x, %v", what, value, got, e)
	}
	var re, im float64
	if wantKind(value) == 5 {
		re, im = floatOf(value[1:9]), floatOf(value[9:])
	}
	if got, e := kinds.AsCorner(value); e != wantErrno(value, 5) || !sameFloat(real(got), re) || !sameFloat(imag(got), im) {
		t.Errorf("%s: AsCorner(% x) is %v, %v", what, value, got, e)
	}
}

// P12.4: values at their edges, others, and drawn ones.
func TestAs(t *testing.T) {
	for what, value := range values() {
		wantRead(t, what, value)
	}
	for what, value := range none() {
		wantRead(t, what, value)
	}
	r := rand.New(rand.NewSource(1204))
	for range 30_000 {
		wantRead(t, "drawn", drawnText(r))
	}
}

// P12.4: the greatest and the least that a tally comes to.
func TestAsTallyAtItsEnds(t *testing.T) {
	all := values()
	for what, want := range map[string]int32{"tally of nobody": 0, "tally of all up": 327675, "tally of all down": -327675, "tally of all at end": 0, "tally of 1, both": 2, "tally of 1, turned": -2} {
		if got, e := kinds.AsTally(all[what]); got != want || e != api.OK {
			t.Errorf("%s: %d, %v", what, got, e)
		}
	}
}

// P12.3, P12.4: flags, floats and corners there and back; of all NaNs one value.
func TestMade(t *testing.T) {
	if kinds.Flag(false) != "\x01\x00" || kinds.Flag(true) != "\x01\x01" || kinds.Tally() != "\x03" {
		t.Errorf("% x, % x, % x", kinds.Flag(false), kinds.Flag(true), kinds.Tally())
	}
	all := append(floats(), nans()...)
	for _, x := range all {
		if got := kinds.Real(x); got != "\x02"+floatBytes(x) {
			t.Errorf("Real(%v) is % x", x, got)
		}
		if got, e := kinds.AsReal(kinds.Real(x)); !sameFloat(got, x) || e != api.OK {
			t.Errorf("%v there and back: %v, %v", x, got, e)
		}
		for _, y := range all {
			c := complex(x, y)
			if got := kinds.Corner(c); got != "\x05"+floatBytes(x)+floatBytes(y) {
				t.Errorf("Corner(%v) is % x", c, got)
			}
			if got, e := kinds.AsCorner(kinds.Corner(c)); !sameFloat(real(got), x) || !sameFloat(imag(got), y) || e != api.OK {
				t.Errorf("%v there and back: %v, %v", c, got, e)
			}
		}
	}
}

// wantSet holds what Runes answers against the oracle; the list stays as it was, with the room behind its end.
func wantSet(t *testing.T, what string, l []rune) {
	t.Helper()
	want, e := setBytes(l), api.OK
	if len(want) > 40 {
		want, e = "", api.ErrBig
	}
	for _, x := range l {
		if x < 0 || x > 0x10ffff || x >= 0xd800 && x <= 0xdfff {
			want, e = "", api.ErrArg
		}
	}
	roomy := append(slices.Clone(l), 'z', 'y', 'x')
	was := slices.Clone(roomy)
	got, f := kinds.Runes(roomy[:len(l)])
	if got != want || f != e {
		t.Errorf("%s: Runes is % x, %v, want % x, %v", what, got, f, want, e)
	}
	if !slices.Equal(roomy, was) {
		t.Errorf("%s: the list is changed", what)
	}
}

// P12.3: lists at their edges.
func TestRunes(t *testing.T) {
	for what, l := range map[string][]rune{
		"nil":                            nil,
		"empty":                          {},
		"0":                              {0},
		"they fall":                      {5, 4, 3, 3, 4, 5, 0},
		"the last":                       {0x10ffff},
		"behind the last":                {0x110000},
		"beside what is none":            {0xe000, 0xd7ff},
		"D800":                           {0xd800},
		"DFFF":                           {0xdfff},
		"below 0":                        {-1},
		"the least":                      {math.MinInt32},
		"the greatest":                   {math.MaxInt32},
		"the mark of no rune":            {0xfffd},
		"39 of one byte":                 rising('0', 39),
		"40 of one byte":                 rising('0', 40),
		"39 of one byte, many times":     slices.Repeat(rising('0', 39), 50),
		"40 of one byte, many times":     slices.Repeat(rising('0', 40), 50),
		"19 of two bytes":                rising(0x80, 19),
		"20 of two bytes":                rising(0x80, 20),
		"19 of two bytes and one of one": append(rising(0x80, 19), 1),
		"13 of three bytes":              rising(0x800, 13),
		"14 of three bytes":              rising(0x800, 14),
		"13 of three bytes and one":      append(rising(0x800, 13), 1),
		"9 of four bytes and three":      append(rising(0x10000, 9), 1, 2, 3),
		"9 of four bytes and four":       append(rising(0x10000, 9), 1, 2, 3, 4),
		"too many, and the last is none": append(rising('0', 100), 0xd800),
		"too many, and the first, too":   append([]rune{-1}, rising('0', 100)...),
		"too many, and one between":      slices.Concat(rising('0', 100), []rune{0x110000}, rising('0', 100)),
		"all":                            rising(0, 0x110000-0x800),
		"a million noughts":              make([]rune, 1_000_000),
	} {
		wantSet(t, what, l)
	}
}

// P12.3: drawn lists.
func TestRunesOfDrawn(t *testing.T) {
	r := rand.New(rand.NewSource(1203))
	for range 20_000 {
		l := []rune(drawnSet(r) + drawnSet(r))
		r.Shuffle(len(l), func(i, k int) { l[i], l[k] = l[k], l[i] })
		if len(l) > 0 && r.Intn(6) == 0 {
			l[r.Intn(len(l))] = []rune{-1, 0xd800, 0xdfff, 0x110000, 0xd7ff, 0xe000, 0x10ffff}[r.Intn(7)]
		}
		wantSet(t, "drawn", l)
	}
}

// P12.3: every rune is one, and nothing beside them.
func TestEveryRune(t *testing.T) {
	for x := rune(-10); x < 0x110010; x++ {
		s, e := kinds.Runes([]rune{x})
		if x < 0 || x > 0x10ffff || x >= 0xd800 && x <= 0xdfff {
			if s != "" || e != api.ErrArg {
				t.Fatalf("Runes(%x): % x, %v", x, s, e)
			}
			continue
		}
		if l, f := kinds.AsRunes(s); e != api.OK || f != api.OK || !slices.Equal(l, []rune{x}) {
			t.Fatalf("Runes(%x): % x, %v; %x, %v", x, s, e, l, f)
		}
	}
}

// R3: what AsRunes answers is new memory, its spare room too.
func TestRunesAnew(t *testing.T) {
	const value = "\x04ABC\u00e9"
	first, _ := kinds.AsRunes(value)
	second, _ := kinds.AsRunes(value)
	first = first[:cap(first)]
	for i := range first {
		first[i] = 'X'
	}
	third, e := kinds.AsRunes(value)
	if want := []rune{'A', 'B', 'C', 0xe9}; !slices.Equal(second, want) || !slices.Equal(third, want) || e != api.OK {
		t.Errorf("two answers share memory: %x, %x", second, third)
	}
}
