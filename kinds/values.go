package kinds

import (
	"math"
	"unicode/utf8"

	"concord/api"
)

// Flag is the value of a flag.
func Flag(on bool) string { return typed{kind: KindFlag, on: on}.told() }

// AsFlag is the flag that a value is.
func AsFlag(value string) (bool, api.Errno) {
	t, e := as(value, KindFlag)
	return t.on, e
}

// Real is the value of a float.
func Real(x float64) string { return typed{kind: KindReal, floats: []float64{x}}.told() }

// AsReal is the float that a value is.
func AsReal(value string) (float64, api.Errno) {
	t, e := as(value, KindReal)
	if e != api.OK {
		return 0, e
	}
	return t.floats[0], api.OK
}

// Corner is the value of a corner: a complex number, of which each part only grows.
func Corner(c complex128) string {
	return typed{kind: KindCorner, floats: []float64{real(c), imag(c)}}.told()
}

// AsCorner is the corner that a value is.
func AsCorner(value string) (complex128, api.Errno) {
	t, e := as(value, KindCorner)
	if e != api.OK {
		return 0, e
	}
	return complex(t.floats[0], t.floats[1]), api.OK
}

// Runes is the value of a set of runes.
func Runes(l []rune) (string, api.Errno) {
	for _, x := range l {
		if !utf8.ValidRune(x) {
			return "", api.ErrArg
		}
	}
	return typed{kind: KindRunes, runes: setOf(l)}.bounded()
}

// AsRunes are the runes of a value, rising.
func AsRunes(value string) ([]rune, api.Errno) {
	t, e := as(value, KindRunes)
	return t.runes, e
}

// as is what a value of this kind is made of.
func as(value string, kind uint8) (typed, api.Errno) {
	t, is := take(value)
	if !is || t.kind != kind {
		return typed{}, api.ErrKind
	}
	return t, api.OK
}

// greater is the greater one in the order of floats.
func greater(x, y float64) float64 {
	if lesser(x, y) {
		return y
	}
	return x
}

// lesser tells whether x is below y in the order of floats.
func lesser(x, y float64) bool {
	switch {
	case math.IsNaN(x) || math.IsNaN(y):
		return !math.IsNaN(x)
	case x == y:
		return math.Signbit(x) && !math.Signbit(y) // only the noughts are like one another and have unlike signs
	}
	return x < y
}
