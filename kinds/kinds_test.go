package kinds_test

import (
	"math/rand"
	"testing"

	"concord/kinds"
)

// wantKnown holds a text's kind against the oracle.
func wantKnown(t *testing.T, what, value string) {
	t.Helper()
	if got, want := kinds.Kind(value), wantKind(value); got != want {
		t.Errorf("%s: Kind(% x) is %d, want %d", what, value[:min(len(value), 50)], got, want)
	}
}

// P12.1: values at their edges have their kind.
func TestKindOfValues(t *testing.T) {
	for what, value := range values() {
		if got := kinds.Kind(value); got == 0 || got != value[0] {
			t.Errorf("%s: Kind(% x) is %d", what, value, got)
		}
		wantKnown(t, what, value)
	}
}

// P12.1: others have none.
func TestKindOfNone(t *testing.T) {
	for what, value := range none() {
		if got := kinds.Kind(value); got != 0 {
			t.Errorf("%s: Kind is %d", what, got)
		}
		wantKnown(t, what, value)
	}
}

// P12.1: all texts of up to two bytes.
func TestKindOfShortTexts(t *testing.T) {
	for i := range 256 {
		one := string([]byte{byte(i)})
		wantKnown(t, "one byte", one)
		for k := range 256 {
			wantKnown(t, "two bytes", one+string([]byte{byte(k)}))
		}
	}
}

// P12.1: of some values every beginning, every byte left out, turned in every way, or put between.
func TestKindOfTurnedBytes(t *testing.T) {
	all := values()
	for _, what := range []string{"flag on", "real -0x1.8p-1", "real nan", "corner 1 nan", "corner -inf 1", "tally of 2, 3, 4", "tally of all at end", "runes with those", "runes of all kinds", "9 of four and 3", "39 runes"} {
		value := all[what]
		if value == "" {
			t.Fatalf("%s: there is none", what)
		}
		for at := range value {
			wantKnown(t, what+", cut", value[:at])
			wantKnown(t, what+", left out", value[:at]+value[at+1:])
		}
		for n := range 256 {
			turned := string([]byte{byte(n)})
			for at := range value {
				wantKnown(t, what+", turned", value[:at]+turned+value[at+1:])
				wantKnown(t, what+", put between", value[:at]+turned+value[at:])
			}
			wantKnown(t, what+", more", value+turned)
		}
	}
}

// P12.1: every number up to behind the last rune, laid down as UTF-8 lays down runes.
func TestKindOfEveryRune(t *testing.T) {
	for n := range 0x200000 {
		b := []byte{4, byte(0xf0 | n>>18), byte(0x80 | n>>12&0x3f), byte(0x80 | n>>6&0x3f), byte(0x80 | n&0x3f)}
		switch {
		case n < 0x80:
			b = []byte{4, byte(n)}
		case n < 0x800:
			b = []byte{4, byte(0xc0 | n>>6), byte(0x80 | n&0x3f)}
		case n < 0x10000:
			b = []byte{4, byte(0xe0 | n>>12), byte(0x80 | n>>6&0x3f), byte(0x80 | n&0x3f)}
		}
		want := uint8(4)
		if n > 0x10ffff || n >= 0xd800 && n <= 0xdfff {
			want = 0
		}
		if got := kinds.Kind(string(b)); got != want {
			t.Fatalf("%x: Kind(% x) is %d", n, b, got)
		}
	}
}

// P12.1: drawn texts, of which some are values.
func TestKindOfDrawn(t *testing.T) {
	r := rand.New(rand.NewSource(1201))
	var of [6]int
	for range 100_000 {
		value := drawnText(r)
		of[wantKind(value)]++
		wantKnown(t, "drawn", value)
	}
	for kind, n := range of {
		if n < 1000 {
			t.Errorf("%d of the texts were of kind %d", n, kind)
		}
	}
}
