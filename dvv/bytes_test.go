package dvv_test

import (
	"math"
	"math/rand"
	"strings"
	"testing"

	"concord/api"
	"concord/dvv"
)

// wantDecoded holds what Decode makes of bytes against the oracle; what is read is told again as the same bytes.
func wantDecoded(t *testing.T, what, b string) {
	t.Helper()
	want, is := wantDecode(b)
	got, e := dvv.Decode(b)
	if !is {
		if !isZero(got) || e != api.ErrState {
			t.Errorf("%s: Decode(% x) is %v, %v", what, b, got, e)
		}
		return
	}
	if !same(got, want) || e != api.OK {
		t.Errorf("%s: Decode(% x) is %v, %v, want %v", what, b, got, e, want)
	}
	if told, e := dvv.Encode(got); told != b || e != api.OK {
		t.Errorf("%s: % x is told again as % x, %v", what, b, told, e)
	}
}

func wantBytes(t *testing.T, what string, s api.State) {
	t.Helper()
	if b, e := dvv.Encode(s); b != list(s) || e != api.OK {
		t.Errorf("%s: Encode is % x, %v, want % x", what, b, e, list(s))
	}
	if got, e := dvv.Decode(list(s)); !same(got, s) || e != api.OK {
		t.Errorf("%s: Decode is %v, %v, want %v", what, got, e, s)
	}
}

// P11.6: states at their edges, and small ones, have their bytes, and these tell the states.
func TestBytes(t *testing.T) {
	for what, s := range states() {
		wantBytes(t, what, s)
	}
	for _, s := range small([]uint32{0, 300}, 2) {
		wantBytes(t, "small", s)
	}
	for n := range 65 {
		wantBytes(t, "a row", rowState(n, 200, "x"))
		wantBytes(t, "wide", wide(n, 100, ""))
		x := api.Sibling{Dot: api.Dot{Actor: 1, Count: 1}, Value: strings.Repeat("\x80", min(n, 40))}
		wantBytes(t, "a value", with("1:1", x))
	}
}

// P11.6: what may not be has no bytes, and its bytes are no state's.
func TestBytesOfNone(t *testing.T) {
	for what, s := range none() {
		if b, e := dvv.Encode(s); b != "" || e != api.ErrState {
			t.Errorf("%s: Encode is of %d bytes, %v", what, len(b), e)
		}
		if got, e := dvv.Decode(list(s)); !isZero(got) || e != api.ErrState {
			t.Errorf("%s: Decode is %v, %v", what, got, e)
		}
	}
}

// P11.6: bytes that are not of the form.
func TestDecodeErrors(t *testing.T) {
	const seen, rest = "\x01\x01\x02", "\x01\x01\x01\x00\x01x"
	if _, e := dvv.Decode(seen + rest); e != api.OK {
		t.Errorf("Decode of what is right: %v", e)
	}
	for what, b := range map[string]string{
		"nothing":                       "",
		"no siblings told":              "\x00",
		"no siblings told, with a dot":  seen,
		"a byte more":                   seen + rest + "\x00",
		"a byte more behind absent":     "\x00\x00\x00",
		"two states":                    seen + rest + seen + rest,
		"a long form of none seen":      "\x80\x00\x00",
		"a long form of no siblings":    "\x00\x80\x00",
		"a long form of one sibling":    seen + "\x81\x00\x01\x01\x00\x01x",
		"a sibling's actor in a long":   seen + "\x01\x81\x00\x01\x00\x01x",
		"a sibling's count in a long":   seen + "\x01\x01\x81\x00\x00\x01x",
		"a value's length in a long":    seen + "\x01\x01\x01\x00\x81\x00x",
		"a mark of 2":                   seen + "\x01\x01\x01\x02\x01x",
		"a mark of 2, no value":         seen + "\x01\x01\x01\x02\x00",
		"a mark of 128":                 seen + "\x01\x01\x01\x80\x00",
		"a mark of 255":                 seen + "\x01\x01\x01\xff\x00",
		"a mark of 1 in a long form":    seen + "\x01\x01\x01\x81\x00\x00",
		"gone with a value":             seen + "\x01\x01\x01\x01\x01x",
		"a value cut":                   seen + "\x01\x01\x01\x00\x02x",
		"a value of 41 bytes":           seen + "\x01\x01\x01\x00\x29" + strings.Repeat("x", 41),
		"a value of 2^63 bytes":         seen + "\x01\x01\x01\x00" + number(1<<63),
		"a sibling that is not covered": seen + "\x01\x01\x03\x00\x01x",
		"a sibling of nobody":           seen + "\x01\x02\x01\x00\x01x",
		"a sibling's count of 0":        seen + "\x01\x01\x00\x00\x01x",
		"an actor of 2^32 + 1":          seen + "\x01" + number(1<<32+1) + "\x01\x00\x01x",
		"a count of 2^40 + 1":           seen + "\x01\x01" + number(end+1) + "\x00\x01x",
		"a count of 2^64 - 1":           seen + "\x01\x01" + number(math.MaxUint64) + "\x00\x01x",
		"siblings that fall":            seen + "\x02\x01\x02\x00\x00\x01\x01\x00\x00",
		"a sibling twice":               seen + "\x02\x01\x01\x00\x00\x01\x01\x00\x00",
		"a sibling too few":             seen + "\x02\x01\x01\x00\x01x",
		"64 siblings, none there":       seen + "\x40",
		"65 siblings, none there":       seen + "\x41",
		"65 siblings":                   list(rowState(65, 1, "")),
		"2^64 - 1 siblings":             seen + number(math.MaxUint64),
		"65 dots":                       list(api.State{Seen: many(65, 0, 1)}),
		"dots that fall":                "\x02\x02\x01\x01\x01\x00",
		"a dot of count 0":              "\x01\x01\x00\x00",
		"a dot twice":                   "\x02\x01\x01\x01\x01\x00",
		"a dot too few":                 "\x02\x01\x01",
	} {
		if s, e := dvv.Decode(b); !isZero(s) || e != api.ErrState {
			t.Errorf("%s: Decode(% x) is %v, %v", what, b, s, e)
		}
		wantDecoded(t, what, b)
	}
}

// P11.6: of some bytes every beginning, a byte more, every byte left out, and every byte turned in every way.
func TestTurnedBytes(t *testing.T) {
	for _, text := range []string{"", "1:1;", "1:1; 1:1=x", "1:1; 1:1-", "1:2 3:1; 1:1=b 1:2- 3:1=ab", "128:300; 128:299=x 128:300=", "5:1099511627776 4294967295:1; 4294967295:1="} {
		b := list(state(text))
		for cut := range b {
			if s, e := dvv.Decode(b[:cut]); !isZero(s) || e != api.ErrState {
				t.Errorf("Decode(% x): %v, %v", b[:cut], s, e)
			}
			wantDecoded(t, "a byte left out", b[:cut]+b[cut+1:])
		}
		for n := range 256 {
			turned := string([]byte{byte(n)})
			if s, e := dvv.Decode(b + turned); !isZero(s) || e != api.ErrState {
				t.Errorf("Decode(% x): %v, %v", b+turned, s, e)
			}
			for at := range b {
				wantDecoded(t, "turned", b[:at]+turned+b[at+1:])
				wantDecoded(t, "put between", b[:at]+turned+b[at:])
			}
		}
	}
	full := list(wide(64, 1<<20, strings.Repeat("f", 40)))
	for at := range full {
		if s, e := dvv.Decode(full[:at]); !isZero(s) || e != api.ErrState {
			t.Errorf("a full one, cut at %d: %v, %v", at, s, e)
		}
	}
}

// P11.6: all bytes of up to two, and drawn ones, some of which look like a state's.
func TestDrawnBytes(t *testing.T) {
	for i := range 256 {
		wantDecoded(t, "one byte", string([]byte{byte(i)}))
		for k := range 256 {
			wantDecoded(t, "two bytes", string([]byte{byte(i), byte(k)}))
		}
	}
	r := rand.New(rand.NewSource(116))
	whole := 0
	for range 60000 {
		b := drawnBytes(r)
		if _, is := wantDecode(b); is {
			whole++
		}
		wantDecoded(t, "drawn", b)
	}
	if whole < 5000 || whole > 50000 {
		t.Errorf("%d of the bytes were a state's", whole)
	}
}

// drawnBytes are those of a state that may not be, often with some of them changed, or rows of small bytes.
func drawnBytes(r *rand.Rand) string {
	if r.Intn(4) == 0 {
		b := make([]byte, r.Intn(14))
		for i := range b {
			b[i] = byte(r.Intn(3))
		}
		return string(b)
	}
	b := list(drawnAny(r))
	for range r.Intn(3) {
		at := r.Intn(len(b) + 1)
		b = b[:at] + string([]byte{byte(r.Intn(256) >> r.Intn(8))}) + b[min(at+r.Intn(3), len(b)):]
	}
	return b
}

// R3: what Decode answers is new memory.
func TestDecodeAnew(t *testing.T) {
	for what, s := range states() {
		first, _ := dvv.Decode(list(s))
		second, _ := dvv.Decode(list(s))
		scribble(first)
		third, e := dvv.Decode(list(s))
		if !same(second, s) || !same(third, s) || e != api.OK {
			t.Errorf("%s: two answers share memory", what)
		}
	}
}

// R1: Decode ends soon, however many bytes there are.
func TestManyBytes(t *testing.T) {
	for _, b := range []string{strings.Repeat("\x00", 1<<24), strings.Repeat("\x01", 1<<24), strings.Repeat("\xff", 1<<24), list(state("1:1; 1:1=x")) + strings.Repeat("\x00", 1<<24)} {
		if s, e := dvv.Decode(b); !isZero(s) || e != api.ErrState {
			t.Errorf("%x ..: %v, %v", b[:4], s, e)
		}
	}
}
