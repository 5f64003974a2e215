package digest

import "concord/api"

// Start is the state ahead of the first block.
func Start() [8]uint32 {
	// Of each of the first eight primes the first 32 bits behind the point of its square root.
	return [8]uint32{
		0x6a09e667, 0xbb67ae85, 0x3c6ef372, 0xa54ff53a,
		0x510e527f, 0x9b05688c, 0x1f83d9ab, 0x5be0cd19,
	}
}

// Block is the state behind a block of 64 bytes.
func Block(state [8]uint32, block []byte) ([8]uint32, api.Errno) {
	if len(block) != blockSize {
		return [8]uint32{}, api.ErrArg
	}
	table := cubeRoots()
	return mixed(state, [blockSize]byte(block), &table), api.OK
}

// Fill is what stands behind a text of so many bytes ahead of its last block's end.
func Fill(n uint64) []byte {
	// A byte 80 and eight bytes of the length are always there. The difference may wrap round, for a block's
	// size divides 2^64.
	noughts := (blockSize - 9 - n) % blockSize
	fill := make([]byte, noughts+9)
	fill[0] = 0x80
	bits := n * 8
	for i := len(fill) - 1; bits > 0; i-- {
		fill[i] = byte(bits)
		bits >>= 8
	}
	return fill
}

// mixed is what a block makes of a state; the table is that of cubeRoots, handed in so that it is made
// once for many blocks.
func mixed(state [8]uint32, block [blockSize]byte, table *[64]uint32) [8]uint32 {
	words := spread(block)
	a, b, c, d, e, f, g, h := state[0], state[1], state[2], state[3], state[4], state[5], state[6], state[7]
	for i, k := range table {
		t := h + (turned(e, 6) ^ turned(e, 11) ^ turned(e, 25)) + (e&f ^ ^e&g) + k + words[i]
		u := (turned(a, 2) ^ turned(a, 13) ^ turned(a, 22)) + (a&b ^ a&c ^ b&c)
		h, g, f, e, d, c, b, a = g, f, e, d+t, c, b, a, t+u
	}
	for i, x := range [8]uint32{a, b, c, d, e, f, g, h} {
		state[i] += x
	}
	return state
}

// spread is a block's words: its own sixteen, and those that follow from them.
func spread(block [blockSize]byte) [64]uint32 {
	var words [64]uint32
	for i, b := range block {
		words[i/4] <<= 8
		words[i/4] |= uint32(b)
	}
	for i := 16; i < len(words); i++ {
		words[i] = words[i-16] + words[i-7]
		words[i] += laidOver(words[i-15], 7, 18, 3)
		words[i] += laidOver(words[i-2], 17, 19, 10)
	}
	return words
}

// laidOver is a word, turned once and turned once more and moved to the right, all three exclusively ored.
func laidOver(x uint32, once, more, move uint) uint32 {
	y := turned(x, once)
	y ^= turned(x, more)
	x >>= move
	x ^= y
	return x
}

// turned is a word whose bits have gone n to the right, those that fall out coming in from the left.
func turned(x uint32, n uint) uint32 {
	out := x
	out <<= 32 - n
	x >>= n
	x |= out
	return x
}

// cubeRoots is of each of the first 64 primes the first 32 bits behind the point of its cube root.
func cubeRoots() [64]uint32 {
	return [64]uint32{
		0x428a2f98, 0x71374491, 0xb5c0fbcf, 0xe9b5dba5, 0x3956c25b, 0x59f111f1, 0x923f82a4, 0xab1c5ed5,
		0xd807aa98, 0x12835b01, 0x243185be, 0x550c7dc3, 0x72be5d74, 0x80deb1fe, 0x9bdc06a7, 0xc19bf174,
		0xe49b69c1, 0xefbe4786, 0x0fc19dc6, 0x240ca1cc, 0x2de92c6f, 0x4a7484aa, 0x5cb0a9dc, 0x76f988da,
		0x983e5152, 0xa831c66d, 0xb00327c8, 0xbf597fc7, 0xc6e00bf3, 0xd5a79147, 0x06ca6351, 0x14292967,
		0x27b70a85, 0x2e1b2138, 0x4d2c6dfc, 0x53380d13, 0x650a7354, 0x766a0abb, 0x81c2c92e, 0x92722c85,
		0xa2bfe8a1, 0xa81a664b, 0xc24b8b70, 0xc76c51a3, 0xd192e819, 0xd6990624, 0xf40e3585, 0x106aa070,
		0x19a4c116, 0x1e376c08, 0x2748774c, 0x34b0bcb5, 0x391c0cb3, 0x4ed8aa4a, 0x5b9cca4f, 0x682e6ff3,
		0x748f82ee, 0x78a5636f, 0x84c87814, 0x8cc70208, 0x90befffa, 0xa4506ceb, 0xbef9a3f7, 0xc67178f2,
	}
}
