package wire_test

import (
	"hash/crc32"
	"math"
	"math/rand"
	"strings"
	"testing"
	"time"

	"concord/wire"
)

// someBytes are n bytes of a source.
func someBytes(source *rand.Rand, n int) string {
	b := make([]byte, n)
	source.Read(b)
	return string(b)
}

// slowOn is the sum bit by bit, to the letter of P1.7 and P1.8.
func slowOn(sum uint32, s string) uint32 {
	register := ^sum
	for i := 0; i < len(s); i++ {
		register ^= uint32(s[i])
		for range 8 {
			low := register & 1
			register >>= 1
			if low == 1 {
				register ^= 0x82F63B78
			}
		}
	}
	return ^register
}

// P1.7: sums that others have told, too (example 6 among them).
func TestKnownSums(t *testing.T) {
	var up, down []byte
	for i := range 32 {
		up, down = append(up, byte(i)), append(down, byte(31-i))
	}
	for s, want := range map[string]uint32{
		"":                         0,
		"a":                        0xC1D04330,
		"123456789":                0xE3069283,
		strings.Repeat("\x00", 32): 0x8A9136AA,
		strings.Repeat("\xff", 32): 0x62A8AB43,
		string(up):                 0x46DD794E,
		string(down):               0x113FDB5C,
	} {
		if got := wire.Sum(s); got != want {
			t.Errorf("Sum of % X: %08X, want %08X", s, got, want)
		}
	}
}

// P1.7: every byte, and texts of many lengths.
func TestSumBitByBit(t *testing.T) {
	table := crc32.MakeTable(crc32.Castagnoli)
	source := rand.New(rand.NewSource(7))
	check := func(s string) {
		t.Helper()
		if got := wire.Sum(s); got != slowOn(0, s) || got != crc32.Checksum([]byte(s), table) {
			t.Errorf("Sum of % X: %08X", s, got)
		}
	}
	for b := range 256 {
		check(string([]byte{byte(b)}))
	}
	for n := range 200 {
		check(someBytes(source, n))
	}
	check(someBytes(source, 5000))
}

// P1.8: On from any sum; behind the sum of what stands ahead; from 0.
func TestOn(t *testing.T) {
	source := rand.New(rand.NewSource(8))
	for n := range 100 {
		s, ahead := someBytes(source, n), someBytes(source, source.Intn(40))
		for _, sum := range []uint32{0, 1, math.MaxUint32, 1 << 31, source.Uint32()} {
			if got := wire.On(sum, s); got != slowOn(sum, s) {
				t.Errorf("On(%08X) of % X: %08X", sum, s, got)
			}
		}
		if wire.On(wire.Sum(ahead), s) != wire.Sum(ahead+s) {
			t.Errorf("On(Sum(% X), % X)", ahead, s)
		}
		if wire.On(0, s) != wire.Sum(s) {
			t.Errorf("On(0, % X)", s)
		}
	}
	if wire.On(wire.Sum("1234"), "56789") != 0xE3069283 || wire.On(77, "") != 77 {
		t.Error("On of the example, or of nothing")
	}
}

// P1.9: Joined by its three parts.
func TestJoined(t *testing.T) {
	source := rand.New(rand.NewSource(9))
	for _, n := range []int{-math.MaxInt, math.MinInt, -300, -1, 0, 1, 2, 3, 4, 5, 7, 8, 15, 16, 31, 32, 33, 64, 255, 256, 257, 1023, 1024, 4096, 65537, 1000003} {
		z := strings.Repeat("\x00", max(n, 0))
		for _, a := range []uint32{0, 1, 1 << 31, math.MaxUint32, source.Uint32(), source.Uint32()} {
			b := source.Uint32()
			if got := wire.Joined(a, b, n); got != wire.On(a, z)^wire.On(0, z)^b {
				t.Errorf("Joined(%08X, %08X, %d): %08X", a, b, n, got)
			}
		}
	}
	if wire.Joined(wire.Sum("1234"), wire.Sum("56789"), 5) != 0xE3069283 || wire.Joined(5, 3, 0) != 6 {
		t.Error("Joined of the examples")
	}
}

// P1.9: great numbers of bytes, which are two lesser ones behind one another.
func TestJoinedOfGreatNumbers(t *testing.T) {
	source := rand.New(rand.NewSource(10))
	for range 300 {
		n, m := int(source.Int63()>>1), int(source.Int63()>>uint(source.Intn(63)+1))
		a := source.Uint32()
		if wire.Joined(a, 0, n+m) != wire.Joined(wire.Joined(a, 0, n), 0, m) {
			t.Errorf("Joined(%08X, 0, %d + %d)", a, n, m)
		}
	}
	// The noughts' sums come back behind 2^31 - 1 bytes, and 2^63 - 1 is 1 more than a multiple of that.
	if wire.Joined(0x12345678, 0, 1<<31-1) != 0x12345678 || wire.Joined(0x12345678, 9, math.MaxInt64) != wire.Joined(0x12345678, 9, 1) {
		t.Error("Joined round the whole")
	}
}

// P1.9: it does not count n down.
func TestJoinedIsQuick(t *testing.T) {
	done := make(chan struct{})
	go func() {
		defer close(done)
		for i := range 1000 {
			wire.Joined(uint32(i), 0, math.MaxInt-i)
		}
	}()
	select {
	case <-done:
	case <-time.After(20 * time.Second):
		t.Fatal("Joined takes as many steps as there are bytes")
	}
}

// P1.14: two texts, one behind the other.
func TestJoinedSums(t *testing.T) {
	source := rand.New(rand.NewSource(14))
	for i := range 2000 {
		s, u := someBytes(source, source.Intn(i%90+1)), someBytes(source, source.Intn(i%130+1))
		if wire.Joined(wire.Sum(s), wire.Sum(u), len(u)) != wire.Sum(s+u) {
			t.Fatalf("Joined of % X and % X", s, u)
		}
	}
	for n := range 3000 {
		s, u := "ahead", strings.Repeat("\x00", n)
		if wire.Joined(wire.Sum(s), wire.Sum(u), n) != wire.Sum(s+u) {
			t.Fatalf("Joined with %d bytes 0", n)
		}
	}
}

// turned is s with the bits of a pattern turned, from a bit on, of each byte the lowest first.
func turned(s string, from int, pattern uint32) string {
	b := []byte(s)
	for i := range 32 {
		if pattern>>i&1 == 1 {
			b[(from+i)/8] ^= 1 << ((from + i) % 8)
		}
	}
	return string(b)
}

// P1.15: turned bits within 32 beside one another are seen.
func TestTurnedBits(t *testing.T) {
	source := rand.New(rand.NewSource(15))
	for _, n := range []int{4, 5, 9, 64, 300} {
		s := someBytes(source, n)
		sum := wire.Sum(s)
		for from := 0; from+32 <= 8*n; from++ {
			patterns := []uint32{1, 1 << 31, 1<<31 | 1, math.MaxUint32, 0x82F63B78, 0x82F63B78>>1 | 1<<31, 0xEDB88320}
			for range 40 {
				patterns = append(patterns, source.Uint32()|1<<source.Intn(32))
			}
			for _, p := range patterns {
				if wire.Sum(turned(s, from, p)) == sum {
					t.Fatalf("the bits %08X of % X from %d on are not seen", p, s, from)
				}
			}
		}
	}
	for one := range 8 {
		if wire.Sum(turned("a\x00\x00\x00", one, 1)) == wire.Sum("a\x00\x00\x00") {
			t.Error("one bit is not seen")
		}
	}
}
