package wire_test

import (
	"math"
	"math/rand"
	"strings"
	"testing"

	"concord/api"
	"concord/wire"
)

// item is a number or text of some kind; width is how many bytes a fixed or raw one has.
type item struct {
	kind  int
	width int
	bits  uint64
	text  string
}

// The kinds of items.
const (
	kindByte = iota
	kindSmall
	kindFixed
	kindUint
	kindInt
	kindFloat
	kindText
	kindRaw
	howMany
)

// putItem puts an item.
func putItem(w *wire.Writer, x item) api.Errno {
	switch x.kind {
	case kindByte:
		w.Byte(uint8(x.bits))
	case kindSmall:
		w.Small(int16(x.bits))
	case kindFixed:
		return w.Fixed(x.bits, x.width)
	case kindUint:
		w.Uint(x.bits)
	case kindInt:
		w.Int(int64(x.bits))
	case kindFloat:
		w.Float(math.Float64frombits(x.bits))
	case kindText:
		w.Text(x.text)
	case kindRaw:
		w.Raw(x.text)
	}
	return api.OK
}

// takeItem takes one of the same kind and width.
func takeItem(r *wire.Reader, x item) item {
	got := item{kind: x.kind, width: x.width}
	switch x.kind {
	case kindByte:
		got.bits = uint64(r.Byte())
	case kindSmall:
		got.bits = uint64(uint16(r.Small()))
	case kindFixed:
		got.bits = r.Fixed(x.width)
	case kindUint:
		got.bits = r.Uint(math.MaxUint64)
	case kindInt:
		got.bits = uint64(r.Int())
	case kindFloat:
		got.bits = math.Float64bits(r.Float())
	case kindText:
		got.text = r.Text(x.width)
	case kindRaw:
		got.text = r.Raw(x.width)
	}
	return got
}

// sameItem says whether two items are one; a NaN is any NaN.
func sameItem(a, b item) bool {
	if a.kind == kindFloat && math.IsNaN(math.Float64frombits(a.bits)) {
		return b.kind == kindFloat && math.IsNaN(math.Float64frombits(b.bits))
	}
	return a == b
}

// someBits are numbers of all lengths, and those beside powers of two.
func someBits(source *rand.Rand) uint64 {
	switch source.Intn(4) {
	case 0:
		return uint64(1)<<source.Intn(64) - uint64(source.Intn(3))
	case 1:
		return 0x7FF<<52 | uint64(source.Intn(2))<<63 | source.Uint64()>>12*uint64(source.Intn(2))
	}
	return source.Uint64() >> source.Intn(64)
}

// someItem is an item of any kind.
func someItem(source *rand.Rand) item {
	x := item{kind: source.Intn(howMany)}
	switch x.kind {
	case kindByte:
		x.bits = someBits(source) & 0xFF
	case kindSmall:
		x.bits = someBits(source) & 0xFFFF
	case kindFixed:
		x.width = source.Intn(8) + 1
		x.bits = someBits(source) >> (64 - 8*x.width)
	case kindText, kindRaw:
		x.text = someBytes(source, source.Intn(source.Intn(300)+1))
		x.width = len(x.text)
	default:
		x.bits = someBits(source)
	}
	return x
}

// someItems are up to n items, and what a writer tells of them.
func someItems(t *testing.T, source *rand.Rand, n int) ([]item, string) {
	t.Helper()
	var items []item
	w := wire.NewWriter()
	for range source.Intn(n) + 1 {
		x := someItem(source)
		if e := putItem(w, x); e != api.OK {
			t.Fatalf("not put: %#v, %d", x, e)
		}
		items = append(items, x)
	}
	return items, w.Told()
}

// P1.10: what is put is taken.
func TestThereAndBack(t *testing.T) {
	source := rand.New(rand.NewSource(110))
	for range 5000 {
		items, told := someItems(t, source, 12)
		r := wire.NewReader(told)
		for _, x := range items {
			if got := takeItem(r, x); !sameItem(x, got) {
				t.Fatalf("put %#v, taken %#v", x, got)
			}
		}
		if r.End() != api.OK || r.At() != len(told) || r.Left() != 0 {
			t.Fatalf("% X: End %d, at %d", told, r.End(), r.At())
		}
	}
}

// P1.10: bounds that are just what was put.
func TestThereAndBackWithinBounds(t *testing.T) {
	source := rand.New(rand.NewSource(111))
	for range 2000 {
		v, s := someBits(source), someBytes(source, source.Intn(200))
		r := wire.NewReader(put(func(w *wire.Writer) { w.Uint(v); w.Text(s) }))
		if r.Uint(v) != v || r.Text(len(s)) != s || r.End() != api.OK {
			t.Fatalf("%d, % X: %d", v, s, r.End())
		}
	}
}

// hardBytes are bytes that stand near the edges of the forms.
func hardBytes(source *rand.Rand, n int) string {
	const edges = "\x00\x00\x01\x02\x7f\x80\x80\x81\xff\xff\xf8\xf0"
	b := []byte(someBytes(source, n))
	for i := range b {
		if source.Intn(4) > 0 {
			b[i] = edges[source.Intn(len(edges))]
		}
	}
	if n >= 8 && source.Intn(2) == 0 {
		copy(b, "\x7f\xf8\x00\x00\x00\x00\x00\x00")
	}
	return string(b)
}

// P1.11, P9: whatever is taken without an error is put again as the very bytes.
func TestOneForm(t *testing.T) {
	source := rand.New(rand.NewSource(112))
	taken := [howMany]int{}
	for range 60000 {
		s := hardBytes(source, source.Intn(24))
		r, w := wire.NewReader(s), wire.NewWriter()
		for r.Err() == api.OK {
			x := item{kind: source.Intn(howMany), width: source.Intn(8) + 1}
			got := takeItem(r, x)
			if r.Err() != api.OK {
				break
			}
			taken[x.kind]++
			if e := putItem(w, got); e != api.OK || w.Told() != s[:r.At()] {
				t.Fatalf("of % X %#v was taken; put again: % X, %d", s, got, w.Told(), e)
			}
		}
	}
	for kind, n := range taken {
		if n < 100 {
			t.Errorf("kind %d was taken %d times only", kind, n)
		}
	}
}

// P1.11: every beginning of two bytes is one uint, or none.
func TestOneFormOfShortUints(t *testing.T) {
	for i := range 1 << 16 {
		s := string([]byte{byte(i >> 8), byte(i)})
		r := wire.NewReader(s)
		v := r.Uint(math.MaxUint64)
		if r.Err() == api.OK && put(func(w *wire.Writer) { w.Uint(v) }) != s[:r.At()] {
			t.Fatalf("% X: %d", s, v)
		}
	}
}

// P1.12: what is cut off ends with ErrShort.
func TestBrokenOff(t *testing.T) {
	source := rand.New(rand.NewSource(113))
	for range 300 {
		items, told := someItems(t, source, 6)
		for cut := range len(told) {
			r := wire.NewReader(told[:cut])
			for _, x := range items {
				takeItem(r, x)
			}
			if r.Err() != api.ErrShort || r.End() != api.ErrShort {
				t.Fatalf("% X cut at %d: %d, %d", told, cut, r.Err(), r.End())
			}
		}
	}
}

// P1.13: fixed forms stand as their numbers do.
func TestFixedInOrder(t *testing.T) {
	source := rand.New(rand.NewSource(114))
	form := func(v uint64, n int) string {
		return put(func(w *wire.Writer) {
			if e := w.Fixed(v, n); e != api.OK {
				t.Fatalf("Fixed(%d, %d): %d", v, n, e)
			}
		})
	}
	for n := 1; n <= 8; n++ {
		most := uint64(math.MaxUint64) >> (64 - 8*n)
		for range 2000 {
			a, b := someBits(source)&most, someBits(source)&most
			if source.Intn(2) == 0 {
				b = min(a, most-1) + 1
			}
			if (a < b) != (form(a, n) < form(b, n)) || strings.Compare(form(a, n), form(b, n)) != -strings.Compare(form(b, n), form(a, n)) {
				t.Fatalf("%d and %d of %d bytes", a, b, n)
			}
		}
	}
}
