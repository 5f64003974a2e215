package page_test

import (
	"math/rand"
	"slices"
	"strings"
	"testing"

	"concord/api"
	"concord/page"
)

func someSerial(source *rand.Rand) uint64 {
	return source.Uint64() >> (2 + source.Intn(62))
}

func someBody(source *rand.Rand) string {
	b := make([]byte, source.Intn(997))
	if source.Intn(4) > 0 {
		source.Read(b)
	}
	return string(b)
}

func somePage(source *rand.Rand) api.Page {
	return api.Page{
		Kind:   uint8(source.Intn(256)),
		Number: source.Uint32() >> source.Intn(32),
		Serial: someSerial(source),
		Body:   someBody(source),
	}
}

// P5.4: Decode of Encode gives the page; Encode of what Decode answers gives the bytes.
func TestThereAndBack(t *testing.T) {
	source := rand.New(rand.NewSource(51))
	for range 500 {
		p := somePage(source)
		b := encoded(t, p)
		if !slices.Equal(b, byHand(p)) {
			t.Fatalf("bytes of %#v: %x", p, b)
		}
		got, e := page.Decode(b, p.Number)
		if e != api.OK || got != p {
			t.Fatalf("%#v came back as %#v, error %d", p, got, e)
		}
		if again := encoded(t, got); !slices.Equal(again, b) {
			t.Fatalf("%#v is told again as %x, not as %x", p, again, b)
		}
	}
}

// P5.4: bytes with a right sum, made by a hand that knows the table: what Decode takes is told again as just these.
func TestOneForm(t *testing.T) {
	source := rand.New(rand.NewSource(52))
	taken := 0
	for range 3000 {
		p := somePage(source)
		b := byHand(p)
		for range source.Intn(3) {
			places := []int{0, 7, 8, 9, 10, 11, 12, 15, 20, 500, 1015, 1016, 1023}
			b[places[source.Intn(len(places))]] = byte(source.Intn(256))
		}
		b = summed(b)
		number := uint32(b[12])<<24 | uint32(b[13])<<16 | uint32(b[14])<<8 | uint32(b[15])
		got, e := page.Decode(b, number)
		if e == api.ErrPage {
			continue
		}
		if e != api.OK {
			t.Fatalf("error %d", e)
		}
		taken++
		if again := encoded(t, got); !slices.Equal(again, b) {
			t.Fatalf("%#v is told again as %x, not as %x", got, again, b)
		}
	}
	if taken < 500 || taken > 2800 {
		t.Errorf("%d of 3000 were taken: the test has lost its weight", taken)
	}
}

func torn(over, under []byte, lands int) []byte {
	return slices.Concat(over[:lands], under[lands:])
}

// P5.4: the fifth example.
func TestFifthExample(t *testing.T) {
	over, under := encoded(t, api.Page{Serial: 258}), encoded(t, api.Page{Serial: 255, Body: "another"})
	mustEnd(t, torn(over, under, 1016), 258, 255, true)
	mustEnd(t, torn(over, under, 1023), 258, 511, true)
	mustEnd(t, torn(over, under, 1024), 258, 258, true)
	mustEnd(t, torn(over, under, 0), 255, 255, true)
}

// tearAnywhere writes one page over another and looks at each front.
func tearAnywhere(t *testing.T, a, b api.Page) {
	t.Helper()
	over, under := encoded(t, a), encoded(t, b)
	for lands := range 1025 {
		lies := torn(over, under, lands)
		head, tail, ok := page.Ends(lies)
		if !ok {
			t.Fatalf("no ends of %d bytes", len(lies))
		}
		whole := slices.Equal(lies, over) || slices.Equal(lies, under)
		if head == tail && !whole {
			t.Fatalf("serial %d over %d, %d landed: like ends %d, and neither page", a.Serial, b.Serial, lands, head)
		}
		if whole && !decodes(lies, a) && !decodes(lies, b) {
			t.Fatalf("serial %d over %d, %d landed: whole, and not read as either", a.Serial, b.Serial, lands)
		}
	}
}

func decodes(b []byte, p api.Page) bool {
	got, e := page.Decode(b, p.Number)
	return e == api.OK && got == p
}

// P5.4: a tear: like ends only where one of both pages lies there whole.
func TestTears(t *testing.T) {
	serials := []uint64{0, 1, 255, 256, 257, 258, 511, 65535, 65536, 1<<56 - 1, 1 << 56, 1<<62 - 1, 1 << 62}
	for _, a := range serials {
		for _, b := range serials {
			if a != b {
				tearAnywhere(t, api.Page{Kind: 1, Number: 5, Serial: a, Body: "one"}, api.Page{Kind: 1, Number: 5, Serial: b, Body: strings.Repeat("x", 996)})
			}
		}
	}
	source := rand.New(rand.NewSource(53))
	for range 50 {
		a, b := somePage(source), somePage(source)
		if a.Serial != b.Serial {
			tearAnywhere(t, a, b)
		}
	}
}

// refusedByAll looks with the numbers that a page or its turned bytes could have.
func refusedByAll(t *testing.T, b []byte, p api.Page, at int) {
	t.Helper()
	stands := uint32(b[12])<<24 | uint32(b[13])<<16 | uint32(b[14])<<8 | uint32(b[15])
	for _, number := range []uint32{p.Number, stands, 0, 1<<32 - 1} {
		if got, e := page.Decode(b, number); e == api.OK || got != (api.Page{}) {
			t.Fatalf("byte %d turned: Decode with %d: %#v, error %d", at, number, got, e)
		}
	}
}

// P5.4: one byte turned into another, at each place, is refused, with every number.
func TestTurnedBytes(t *testing.T) {
	source := rand.New(rand.NewSource(54))
	pages := []api.Page{first(), {}, {Kind: 255, Number: 1<<32 - 1, Serial: 1 << 62, Body: strings.Repeat("\xff", 996)}, somePage(source)}
	for _, p := range pages {
		b := encoded(t, p)
		for at := range b {
			for _, pattern := range []byte{1, 128, 255, byte(1 + source.Intn(255))} {
				b[at] ^= pattern
				refusedByAll(t, b, p, at)
				b[at] ^= pattern
			}
		}
	}
}

// P5.4: of the places that tell something, each byte turned into each other one.
func TestTurnedFields(t *testing.T) {
	p := first()
	b := encoded(t, p)
	for at := range 24 {
		was := b[at]
		for pattern := 1; pattern < 256; pattern++ {
			b[at] = was ^ byte(pattern)
			refusedByAll(t, b, p, at)
		}
		b[at] = was
	}
	mustDecode(t, b, p)
}
