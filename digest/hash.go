package digest

// Hash is bytes that are hashed as they come.
type Hash struct {
	state [8]uint32       // what the whole blocks have made
	left  [blockSize]byte // its first count%blockSize bytes are those that fill no block yet
	count uint64
}

// New makes a Hash of no bytes.
func New() *Hash { return &Hash{state: Start()} }

// Write puts bytes behind those that there are.
func (h *Hash) Write(p []byte) {
	if h == nil {
		return
	}
	used := int(h.count % blockSize)
	h.count += uint64(len(p))
	filled := copy(h.left[used:], p)
	if used+filled < blockSize {
		return
	}
	table := cubeRoots()
	h.state = mixed(h.state, h.left, &table)
	p = p[filled:]
	for len(p) >= blockSize {
		h.state = mixed(h.state, [blockSize]byte(p[:blockSize]), &table)
		p = p[blockSize:]
	}
	copy(h.left[:], p)
}

// Text is Write of a text's bytes.
func (h *Hash) Text(s string) {
	// Piece by piece, for a text as one list of bytes would be a second copy of it, however long it is.
	var piece [8 * blockSize]byte
	for len(s) > 0 {
		n := copy(piece[:], s)
		h.Write(piece[:n])
		s = s[n:]
	}
}

// Sum is the digest of all that was written.
func (h *Hash) Sum() [32]byte {
	if h == nil {
		return [32]byte{}
	}
	// The fill goes into a copy, so that more may come behind what was written.
	last := *h
	last.Write(Fill(h.count))
	return told(last.state)
}

// Len is how many bytes were written.
func (h *Hash) Len() uint64 {
	if h == nil {
		return 0
	}
	return h.count
}

// Copy is another Hash with the same bytes.
func (h *Hash) Copy() *Hash {
	if h == nil {
		return nil
	}
	other := *h
	return &other
}

// Reset lets go of all bytes.
func (h *Hash) Reset() {
	if h != nil {
		*h = Hash{state: Start()}
	}
}

// told is a state's words as bytes, the highest byte of each first.
func told(state [8]uint32) [32]byte {
	var sum [32]byte
	for i := range sum {
		sum[i] = byte(state[i/4] >> (24 - i%4*8))
	}
	return sum
}
