package digest_test

import (
	"math/rand"
	"testing"

	"concord/api"
	"concord/digest"
)

// P2.8: however a text is cut into Writes and Texts, Sum is Of of it; two cuts, at every pair of places.
func TestCutAnywhere(t *testing.T) {
	whole := manyBytes(140)
	want := digest.Of(whole)
	for i := range len(whole) + 1 {
		for j := i; j <= len(whole); j++ {
			h := digest.New()
			h.Text(whole[:i])
			h.Write([]byte(whole[i:j]))
			h.Text(whole[j:])
			if h.Sum() != want || h.Len() != uint64(len(whole)) {
				t.Fatalf("cut at %d and %d: Sum %x, Len %d", i, j, h.Sum(), h.Len())
			}
		}
	}
}

// P2.8: many pieces of any lengths, with Sums and Copies between them.
func TestCutOften(t *testing.T) {
	random := rand.New(rand.NewSource(28))
	for range 200 {
		whole := manyBytes(random.Intn(3000))
		h := digest.New()
		for rest := whole; len(rest) > 0; {
			n := min(len(rest), random.Intn(200))
			if random.Intn(5) == 0 {
				n = min(len(rest), random.Intn(1500))
			}
			if random.Intn(2) == 0 {
				h.Text(rest[:n])
			} else {
				h.Write([]byte(rest[:n]))
			}
			rest = rest[n:]
			if done := whole[:len(whole)-len(rest)]; random.Intn(4) == 0 && h.Sum() != digest.Of(done) {
				t.Fatalf("Sum of the first %d bytes is not theirs", len(done))
			}
			if random.Intn(4) == 0 {
				h = h.Copy()
			}
		}
		if h.Sum() != digest.Of(whole) || h.Len() != uint64(len(whole)) {
			t.Fatalf("Sum of %d bytes in pieces is not theirs", len(whole))
		}
	}
}

// P2.8: Of is what Block makes, from Start on, of the text with Fill behind it.
func TestOfByBlocks(t *testing.T) {
	for n := range 400 {
		s := manyBytes(n)
		bytes := append([]byte(s), digest.Fill(uint64(n))...)
		if len(bytes)%64 != 0 {
			t.Fatalf("%d bytes with their fill are %d", n, len(bytes))
		}
		state := digest.Start()
		for ; len(bytes) > 0; bytes = bytes[64:] {
			var e api.Errno
			if state, e = digest.Block(state, bytes[:64]); e != api.OK {
				t.Fatalf("Block: %d", e)
			}
		}
		var want [32]byte
		for i := range want {
			want[i] = byte(state[i/4] >> (24 - 8*(i%4)))
		}
		if got := digest.Of(s); got != want {
			t.Fatalf("Of(%d bytes) = %x, its blocks make %x", n, got, want)
		}
	}
}

// P2.8: Cut of a lesser width is the beginning of Cut of a greater one.
func TestCutsBeginAlike(t *testing.T) {
	for n := range 50 {
		widest, _ := digest.Cut(manyBytes(n), 32)
		for width := 1; width <= 32; width++ {
			if got, e := digest.Cut(manyBytes(n), width); e != api.OK || got != widest[:width] {
				t.Errorf("Cut(%d bytes, %d) = % X, %d", n, width, got, e)
			}
		}
	}
}

// P2.8: FromHex(Hex(s)) is s, and Hex(FromHex(t)) is t, where that is OK.
func TestHexThereAndBack(t *testing.T) {
	random := rand.New(rand.NewSource(29))
	for n := range 300 {
		s := manyBytes(n)
		if got, e := digest.FromHex(digest.Hex(s)); got != s || e != api.OK {
			t.Errorf("FromHex(Hex(% X)) = % X, %d", s, got, e)
		}
		text := make([]byte, random.Intn(9))
		for i := range text {
			text[i] = "0123456789abcdefABg"[random.Intn(19)]
		}
		if got, e := digest.FromHex(string(text)); e == api.OK && digest.Hex(got) != string(text) {
			t.Errorf("Hex(FromHex(%q)) = %q", text, digest.Hex(got))
		}
	}
}
