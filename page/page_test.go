package page_test

import (
	"slices"
	"strings"
	"testing"

	"concord/api"
	"concord/page"
	"concord/wire"
)

func first() api.Page { return api.Page{Kind: 2, Number: 7, Serial: 258, Body: "ab"} }

func encoded(t *testing.T, p api.Page) []byte {
	t.Helper()
	b, e := page.Encode(p)
	if e != api.OK || len(b) != 1024 {
		t.Fatalf("Encode of kind %d, number %d, serial %d: %d bytes, error %d", p.Kind, p.Number, p.Serial, len(b), e)
	}
	return b
}

func highestFirst(v uint64, n int) []byte {
	b := make([]byte, n)
	for i := range b {
		b[i] = byte(v >> (8 * (n - 1 - i)))
	}
	return b
}

// summed lays the right sum into bytes, whatever else they hold.
func summed(b []byte) []byte {
	b = slices.Clone(b)
	copy(b[16:20], []byte{0, 0, 0, 0})
	copy(b[16:20], highestFirst(uint64(wire.Sum(string(b))), 4))
	return b
}

// byHand is the chapter's table, row by row.
func byHand(p api.Page) []byte {
	b := make([]byte, 1024)
	copy(b[0:8], highestFirst(p.Serial, 8))
	b[8] = p.Kind
	copy(b[10:12], highestFirst(uint64(len(p.Body)), 2))
	copy(b[12:16], highestFirst(uint64(p.Number), 4))
	copy(b[20:1016], p.Body)
	copy(b[1016:1024], highestFirst(p.Serial, 8))
	return summed(b)
}

// P5.1: the first example, place by place.
func TestFirstExample(t *testing.T) {
	b := encoded(t, first())
	want := []byte{0, 0, 0, 0, 0, 0, 1, 2, 2, 0, 0, 2, 0, 0, 0, 7}
	if !slices.Equal(b[:16], want) {
		t.Errorf("ahead of the sum: %x", b[:16])
	}
	if string(b[20:]) != "ab"+strings.Repeat("\x00", 994)+"\x00\x00\x00\x00\x00\x00\x01\x02" {
		t.Errorf("behind the sum: %x", b[20:])
	}
	if !slices.Equal(b[16:20], summed(b)[16:20]) {
		t.Errorf("sum %x", b[16:20])
	}
}

// P5.1: a page's bytes are those of the table, at the edges of each field too.
func TestBytesOfTheTable(t *testing.T) {
	for _, p := range []api.Page{
		{},
		first(),
		{Kind: 255, Number: 1<<32 - 1, Serial: 1 << 62, Body: strings.Repeat("\xff", 996)},
		{Kind: 128, Number: 0x01020304, Serial: 0x0102030405060708, Body: strings.Repeat("x", 255)},
		{Kind: 1, Number: 0x80000000, Serial: 1<<62 - 1, Body: strings.Repeat("x", 256)},
		{Number: 256, Serial: 1, Body: strings.Repeat("x", 995)},
		{Number: 65536, Body: "\x00"},
	} {
		if b := encoded(t, p); !slices.Equal(b, byHand(p)) {
			t.Errorf("kind %d, number %d, serial %d, %d bytes: %x", p.Kind, p.Number, p.Serial, len(p.Body), b)
		}
	}
}

// P5.1: what is wrong with a page: the Serial ahead of the Body (the second example), and no bytes then.
func TestEncodeRefuses(t *testing.T) {
	const top = uint64(1) << 62
	for _, c := range []struct {
		serial uint64
		long   int
		want   api.Errno
	}{
		{0, 0, api.OK}, {0, 996, api.OK}, {0, 997, api.ErrBig}, {0, 1024, api.ErrBig}, {0, 65536, api.ErrBig}, {0, 65538, api.ErrBig},
		{top, 0, api.OK}, {top, 996, api.OK}, {top, 997, api.ErrBig},
		{top + 1, 0, api.ErrArg}, {top + 1, 996, api.ErrArg}, {top + 1, 997, api.ErrArg}, {1<<64 - 1, 70000, api.ErrArg},
	} {
		b, e := page.Encode(api.Page{Kind: 3, Number: 9, Serial: c.serial, Body: strings.Repeat("x", c.long)})
		if e != c.want || (e != api.OK && len(b) != 0) || (e == api.OK && len(b) != 1024) {
			t.Errorf("serial %d, %d bytes: %d bytes, error %d, not %d", c.serial, c.long, len(b), e, c.want)
		}
	}
}

// R3: what Encode hands out is new memory, its spare room too.
func TestEncodeHandsOutNewMemory(t *testing.T) {
	a := encoded(t, first())
	a = a[:cap(a)]
	for i := range a {
		a[i] = 0xee
	}
	if b := encoded(t, first()); !slices.Equal(b, byHand(first())) {
		t.Errorf("a second Encode: %x", b)
	}
	b, c := encoded(t, first()), encoded(t, first())
	b[500] = 1
	if c[500] != 0 {
		t.Error("two answers share their memory")
	}
}

func mustDecode(t *testing.T, b []byte, p api.Page) {
	t.Helper()
	if got, e := page.Decode(b, p.Number); e != api.OK || got != p {
		t.Errorf("Decode with %d: %#v, error %d, not %#v", p.Number, got, e, p)
	}
}

func mustRefuse(t *testing.T, what string, b []byte, number uint32, want api.Errno) {
	t.Helper()
	if got, e := page.Decode(b, number); e != want || got != (api.Page{}) {
		t.Errorf("%s: Decode with %d: %#v, error %d, not %d", what, number, got, e, want)
	}
}

// P5.2: the third example.
func TestThirdExample(t *testing.T) {
	b := encoded(t, first())
	mustDecode(t, b, first())
	mustRefuse(t, "another number", b, 8, api.ErrPage)
	turned := slices.Clone(b)
	turned[500]++
	mustRefuse(t, "a byte turned", turned, 7, api.ErrPage)
	mustRefuse(t, "1023 bytes", b[:1023], 7, api.ErrForm)
	mustRefuse(t, "1025 bytes", append(slices.Clone(b), 0), 7, api.ErrForm)
	mustRefuse(t, "1024 noughts", make([]byte, 1024), 7, api.ErrBlank)
}

// P5.2: how many bytes there are is looked at first, then whether they are noughts, whatever number is asked.
func TestFormAndBlank(t *testing.T) {
	mustRefuse(t, "no bytes", nil, 0, api.ErrForm)
	for _, n := range []int{0, 1, 8, 20, 1016, 1023, 1025, 2048} {
		mustRefuse(t, "noughts", make([]byte, n), 0, api.ErrForm)
		mustRefuse(t, "ones", slices.Repeat([]byte{1}, n), 1, api.ErrForm)
	}
	for _, number := range []uint32{0, 1, 7, 1<<32 - 1} {
		mustRefuse(t, "blank", make([]byte, 1024), number, api.ErrBlank)
	}
	for i := range 1024 {
		b := make([]byte, 1024)
		b[i] = 1
		mustRefuse(t, "one byte that is no nought", b, 0, api.ErrPage)
	}
}

// P5.2: the page has that Number, all four bytes of it.
func TestDecodeAsksTheNumber(t *testing.T) {
	for _, own := range []uint32{0, 7, 0x01020304, 1<<32 - 1} {
		p := first()
		p.Number = own
		b := encoded(t, p)
		mustDecode(t, b, p)
		for bit := range 32 {
			mustRefuse(t, "another number", b, own^1<<bit, api.ErrPage)
		}
	}
}

// P5.2: a right sum alone makes no page: each other place must be as the table says.
func TestRightSumsOfNoPage(t *testing.T) {
	p := api.Page{Kind: 2, Number: 7, Serial: 258, Body: strings.Repeat("x", 990)}
	b := encoded(t, p)
	for _, c := range []struct {
		what string
		at   int
		to   []byte
	}{
		{"the nought", 9, []byte{1}},
		{"the nought, all bits", 9, []byte{255}},
		{"just behind the body", 20 + 990, []byte{1}},
		{"the last place behind the body", 1015, []byte{1}},
		{"another head", 0, highestFirst(259, 8)},
		{"another tail", 1016, highestFirst(259, 8)},
		{"a tail of noughts", 1016, make([]byte, 8)},
		{"the tail's last byte", 1023, []byte{3}},
		{"a length one short", 10, highestFirst(989, 2)},
		{"no length", 10, highestFirst(0, 2)},
		{"a length of 997", 10, highestFirst(997, 2)},
		{"a length up to the end", 10, highestFirst(1004, 2)},
		{"a length past the end", 10, highestFirst(1005, 2)},
		{"the greatest length", 10, highestFirst(65535, 2)},
	} {
		bad := slices.Clone(b)
		copy(bad[c.at:], c.to)
		mustRefuse(t, c.what, summed(bad), 7, api.ErrPage)
	}
}

// P5.2: a Serial beyond its bound makes no page, though head, tail and sum agree.
func TestSerialsBeyondTheBound(t *testing.T) {
	for _, serial := range []uint64{1<<62 + 1, 1 << 63, 1<<64 - 1} {
		p := first()
		p.Serial = serial
		mustRefuse(t, "a serial too great", byHand(p), 7, api.ErrPage)
	}
	p := first()
	p.Serial = 1 << 62
	mustDecode(t, byHand(p), p)
}

// P5.2: lengths beyond the bound make no page, though all behind them is noughts or the tail.
func TestLengthsBeyondTheBound(t *testing.T) {
	for _, body := range []string{"", strings.Repeat("x", 996)} {
		b := encoded(t, api.Page{Number: 7, Body: body})
		for _, n := range []uint64{997, 998, 1003, 1004, 1005, 1024, 4096, 65535} {
			bad := slices.Clone(b)
			copy(bad[10:], highestFirst(n, 2))
			mustRefuse(t, "a length too great", summed(bad), 7, api.ErrPage)
		}
	}
	// Noughts at its end belong to the body, if the length says so.
	p := api.Page{Number: 7, Body: strings.Repeat("\x00", 996)}
	mustDecode(t, byHand(p), p)
}

// P5.2: a sum that is not the right one.
func TestWrongSums(t *testing.T) {
	b := encoded(t, first())
	for bit := range 32 {
		bad := slices.Clone(b)
		bad[16+bit/8] ^= 1 << (bit % 8)
		mustRefuse(t, "a wrong sum", bad, 7, api.ErrPage)
	}
	// The sum's own four bytes count as noughts; a sum over what stood there is none.
	over := slices.Clone(b)
	copy(over[16:20], highestFirst(uint64(wire.Sum(string(b))), 4))
	mustRefuse(t, "the sum of a summed page", over, 7, api.ErrPage)
	without := slices.Clone(b)
	copy(without[16:20], highestFirst(uint64(wire.Sum(string(b[:16])+string(b[20:]))), 4))
	mustRefuse(t, "the sum of the other bytes alone", without, 7, api.ErrPage)
}

// R3: Decode, Blank and Ends change nothing of what they are handed, and keep nothing of it.
func TestHandedInBytesStay(t *testing.T) {
	room := slices.Concat(encoded(t, first()), []byte{1, 2, 3})
	before := slices.Clone(room)
	b := room[:1024]
	p, e := page.Decode(b, 7)
	page.Decode(b, 8)
	page.Blank(b)
	page.Ends(b)
	if !slices.Equal(room, before) {
		t.Error("the bytes that were handed in are others")
	}
	clear(room)
	if e != api.OK || p != first() {
		t.Errorf("the page has changed with the bytes: %#v", p)
	}
}

// P5.3: Blank is true of PageSize noughts alone.
func TestBlank(t *testing.T) {
	for _, n := range []int{0, 1, 1023, 1025, 2048} {
		if page.Blank(make([]byte, n)) {
			t.Errorf("%d noughts are blank", n)
		}
	}
	if page.Blank(nil) || !page.Blank(make([]byte, 1024)) {
		t.Error("none are blank, or 1024 are not")
	}
	for i := range 1024 {
		b := make([]byte, 1024)
		b[i] = 128
		if page.Blank(b) {
			t.Errorf("blank with the byte %d", i)
		}
	}
	if page.Blank(encoded(t, api.Page{})) {
		t.Error("the page without anything is blank")
	}
}

func mustEnd(t *testing.T, b []byte, head, tail uint64, ok bool) {
	t.Helper()
	if h, l, k := page.Ends(b); h != head || l != tail || k != ok {
		t.Errorf("Ends of %d bytes: %d, %d, %t, not %d, %d, %t", len(b), h, l, k, head, tail, ok)
	}
}

// P5.3: head and tail of any bytes, the fourth example among them.
func TestEnds(t *testing.T) {
	mustEnd(t, encoded(t, first()), 258, 258, true)
	mustEnd(t, make([]byte, 1024), 0, 0, true)
	mustEnd(t, nil, 0, 0, false)
	for _, n := range []int{0, 8, 16, 1023, 1025, 2048} {
		mustEnd(t, slices.Repeat([]byte{9}, n), 0, 0, false)
	}
	b := slices.Repeat([]byte{0xee}, 1024)
	copy(b, highestFirst(0x0102030405060708, 8))
	copy(b[1016:], highestFirst(0xf1f2f3f4f5f6f7f8, 8))
	mustEnd(t, b, 0x0102030405060708, 0xf1f2f3f4f5f6f7f8, true)
	mustEnd(t, slices.Repeat([]byte{255}, 1024), 1<<64-1, 1<<64-1, true)
	p := first()
	p.Serial = 1 << 62
	mustEnd(t, encoded(t, p), 1<<62, 1<<62, true)
}
