package digest_test

import (
	"bytes"
	"math/big"
	"math/bits"
	"math/rand"
	"testing"

	"concord/api"
	"concord/digest"
)

// primes are the first 64.
func primes() []int64 {
	var found []int64
next:
	for n := int64(2); len(found) < 64; n++ {
		for _, p := range found {
			if n%p == 0 {
				continue next
			}
		}
		found = append(found, n)
	}
	return found
}

// rootWord is the first 32 bits behind the point of the root of n, to the power that is asked.
func rootWord(n int64, power int64) uint32 {
	whole := new(big.Int).Lsh(big.NewInt(n), uint(32*power))
	low, high := big.NewInt(0), new(big.Int).Lsh(big.NewInt(n), 32)
	for one := big.NewInt(1); low.Cmp(high) < 0; {
		half := new(big.Int).Add(low, high)
		half.Add(half, one).Rsh(half, 1)
		if new(big.Int).Exp(half, big.NewInt(power), nil).Cmp(whole) <= 0 {
			low = half
		} else {
			high = half.Sub(half, one)
		}
	}
	return uint32(low.Uint64())
}

// plainBlock is what a block makes of a state, as the chapter's words say it, one by one.
func plainBlock(state [8]uint32, block []byte, k []uint32) [8]uint32 {
	r := func(x uint32, n int) uint32 { return bits.RotateLeft32(x, -n) }
	var w [64]uint32
	for i := range w {
		if i < 16 {
			w[i] = uint32(block[4*i])<<24 + uint32(block[4*i+1])<<16 + uint32(block[4*i+2])<<8 + uint32(block[4*i+3])
			continue
		}
		x, y := w[i-15], w[i-2]
		w[i] = w[i-16] + (r(x, 7) ^ r(x, 18) ^ x>>3) + w[i-7] + (r(y, 17) ^ r(y, 19) ^ y>>10)
	}
	v := state
	for i := range w {
		a, b, c, d, e, f, g, h := v[0], v[1], v[2], v[3], v[4], v[5], v[6], v[7]
		t := h + (r(e, 6) ^ r(e, 11) ^ r(e, 25)) + ((e & f) ^ (^e & g)) + k[i] + w[i]
		u := (r(a, 2) ^ r(a, 13) ^ r(a, 22)) + ((a & b) ^ (a & c) ^ (b & c))
		v = [8]uint32{t + u, a, b, c, d + t, e, f, g}
	}
	for i := range v {
		v[i] += state[i]
	}
	return v
}

// P2.1: Start is the first eight primes' square roots; example 2.
func TestStart(t *testing.T) {
	got := digest.Start()
	for i, p := range primes()[:8] {
		if want := rootWord(p, 2); got[i] != want {
			t.Errorf("Start()[%d] = %08x, want %08x", i, got[i], want)
		}
	}
	if got[0] != 0x6a09e667 || got[7] != 0x5be0cd19 {
		t.Errorf("Start() = %08x", got)
	}
}

// cubeWords are k0 to k63.
func cubeWords(t *testing.T) []uint32 {
	var k []uint32
	for _, p := range primes() {
		k = append(k, rootWord(p, 3))
	}
	if k[0] != 0x428a2f98 || k[63] != 0xc67178f2 {
		t.Fatalf("the test's own words are wrong: %08x", k)
	}
	return k
}

// P2.1: Block is what the chapter's words say, of any state and any block.
func TestBlock(t *testing.T) {
	k := cubeWords(t)
	random := rand.New(rand.NewSource(21))
	states := [][8]uint32{digest.Start(), {}, {1 << 31, 1, 2, 3, ^uint32(0), 5, 6, 7}}
	blocks := [][]byte{make([]byte, 64), bytes.Repeat([]byte{0xFF}, 64)}
	for range 60 {
		var state [8]uint32
		for i := range state {
			state[i] = random.Uint32()
		}
		block := make([]byte, 64)
		random.Read(block)
		states, blocks = append(states, state), append(blocks, block)
	}
	for _, state := range states {
		for _, block := range blocks {
			got, e := digest.Block(state, block)
			if want := plainBlock(state, block, k); got != want || e != api.OK {
				t.Fatalf("Block(%08x, % X) = %08x, %d, want %08x", state, block, got, e, want)
			}
		}
	}
}

// P2.1: a block has 64 bytes, its room does not count; beside the error the state is noughts (R4).
func TestBlockOfAnotherLength(t *testing.T) {
	for _, n := range []int{0, 1, 63, 65, 128} {
		got, e := digest.Block(digest.Start(), make([]byte, n, 256))
		if e != api.ErrArg || got != ([8]uint32{}) {
			t.Errorf("Block of %d bytes = %08x, %d", n, got, e)
		}
	}
	if got, e := digest.Block(digest.Start(), nil); e != api.ErrArg || got != ([8]uint32{}) {
		t.Errorf("Block of nil = %08x, %d", got, e)
	}
}

// R3: Block changes neither the block nor the room behind it.
func TestBlockLeavesItsArgument(t *testing.T) {
	room := bytes.Repeat([]byte{7}, 100)
	digest.Block(digest.Start(), room[:64])
	if !bytes.Equal(room, bytes.Repeat([]byte{7}, 100)) {
		t.Errorf("Block wrote into its argument: % X", room)
	}
}

// plainFill is the fill as the chapter says it: noughts one by one, till the length stands at a block's end.
func plainFill(n uint64) []byte {
	fill := []byte{0x80}
	for (n+uint64(len(fill))+8)%64 != 0 {
		fill = append(fill, 0)
	}
	for shift := 56; shift >= 0; shift -= 8 {
		fill = append(fill, byte(n*8>>shift))
	}
	return fill
}

// P2.2: Fill of small lengths, and about every power of two.
func TestFill(t *testing.T) {
	var lengths []uint64
	for n := range uint64(300) {
		lengths = append(lengths, n)
	}
	for shift := 8; shift < 64; shift++ {
		for near := range uint64(140) {
			lengths = append(lengths, 1<<shift-70+near)
		}
	}
	for near := range uint64(140) {
		lengths = append(lengths, ^near)
	}
	for _, n := range lengths {
		got, want := digest.Fill(n), plainFill(n)
		if !bytes.Equal(got, want) {
			t.Fatalf("Fill(%d) = % X, want % X", n, got, want)
		}
		if len(got) < 9 || len(got) > 72 {
			t.Fatalf("Fill(%d) has %d bytes", n, len(got))
		}
	}
}

// P2.2: example 3.
func TestFillExamples(t *testing.T) {
	for _, c := range []struct {
		n       uint64
		noughts int
		end     []byte
	}{
		{0, 63, nil},
		{55, 6, []byte{0x01, 0xb8}},
		{56, 69, []byte{0x01, 0xc0}},
		{64, 61, []byte{0x02, 0x00}},
		{1 << 61, 63, nil},
	} {
		want := append([]byte{0x80}, make([]byte, c.noughts)...)
		want = append(want, c.end...)
		if got := digest.Fill(c.n); !bytes.Equal(got, want) {
			t.Errorf("Fill(%d) = % X, want % X", c.n, got, want)
		}
	}
}

// R3: what Fill hands out is new memory.
func TestFillIsNewMemory(t *testing.T) {
	first := digest.Fill(3)
	clear(first[:cap(first)])
	if got := digest.Fill(3); !bytes.Equal(got, plainFill(3)) {
		t.Errorf("Fill(3) behind a caller's writing = % X", got)
	}
}
