package digest_test

import (
	"bytes"
	"crypto/sha256"
	"encoding/hex"
	"strings"
	"testing"

	"concord/digest"
)

// manyBytes is a text of n bytes that has no short period.
func manyBytes(n int) string {
	var out strings.Builder
	for i := range n {
		out.WriteByte(byte(i * i >> 3))
	}
	return out.String()
}

// hexOf is a digest in digits that the package under test did not make.
func hexOf(sum [32]byte) string { return hex.EncodeToString(sum[:]) }

// P2.3: example 1, and digests that are known.
func TestOfKnown(t *testing.T) {
	for _, c := range []struct{ text, want string }{
		{"", "e3b0c44298fc1c149afbf4c8996fb92427ae41e4649b934ca495991b7852b855"},
		{"abc", "ba7816bf8f01cfea414140de5dae2223b00361a396177a9cb410ff61f20015ad"},
		{"abcdbcdecdefdefgefghfghighijhijkijkljklmklmnlmnomnopnopq", "248d6a61d20638b8e5c026930c3e6039a33ce45964ff2167f6ecedd419db06c1"},
		{strings.Repeat("a", 1000000), "cdc76e5c9914fb9281a1c7e284d73e67f1809a48a497200e046d39ccc7112cd0"},
	} {
		if got := hexOf(digest.Of(c.text)); got != c.want {
			t.Errorf("Of(a text of %d bytes) = %s, want %s", len(c.text), got, c.want)
		}
	}
}

// P2.3: Of every length about the blocks' ends, bytes of all values.
func TestOfLengths(t *testing.T) {
	for n := range 1200 {
		s := manyBytes(n)
		if got, want := digest.Of(s), sha256.Sum256([]byte(s)); got != want {
			t.Fatalf("Of(%d bytes) = %x, want %x", n, got, want)
		}
	}
}

// P2.4: example 4; Sum changes nothing, more may come behind.
func TestHashExample(t *testing.T) {
	h := digest.New()
	if h.Len() != 0 || h.Sum() != digest.Of("") {
		t.Error("a new Hash has bytes")
	}
	h.Text("a")
	h.Write([]byte{0x62})
	if got := h.Sum(); got != digest.Of("ab") || h.Len() != 2 {
		t.Errorf("Sum of ab = %x, Len %d", got, h.Len())
	}
	if h.Sum() != h.Sum() {
		t.Error("a second Sum is another one")
	}
	h.Text("c")
	if got := h.Sum(); got != digest.Of("abc") || h.Len() != 3 {
		t.Errorf("Sum of abc = %x, Len %d", got, h.Len())
	}
	h.Reset()
	if got := h.Sum(); got != digest.Of("") || h.Len() != 0 {
		t.Errorf("Sum behind Reset = %x, Len %d", got, h.Len())
	}
	h.Text("abc")
	if got := h.Sum(); got != digest.Of("abc") || h.Len() != 3 {
		t.Errorf("Sum of abc behind Reset = %x, Len %d", got, h.Len())
	}
}

// P2.4: Reset and Sum wherever in a block the Hash stands.
func TestHashAtEveryPlace(t *testing.T) {
	for n := range 200 {
		h := digest.New()
		h.Text(manyBytes(n))
		if h.Len() != uint64(n) || h.Sum() != sha256.Sum256([]byte(manyBytes(n))) {
			t.Fatalf("%d bytes: Len %d, Sum %x", n, h.Len(), h.Sum())
		}
		h.Text(manyBytes(70))
		if h.Len() != uint64(n+70) || h.Sum() != sha256.Sum256([]byte(manyBytes(n)+manyBytes(70))) {
			t.Fatalf("70 bytes behind %d and a Sum: Len %d, Sum %x", n, h.Len(), h.Sum())
		}
		h.Reset()
		h.Text("x")
		if h.Len() != 1 || h.Sum() != sha256.Sum256([]byte("x")) {
			t.Fatalf("x behind Reset of %d bytes: Len %d, Sum %x", n+70, h.Len(), h.Sum())
		}
	}
}

// P2.4, R3: what is written is not kept and not changed, the room behind it neither.
func TestWriteKeepsNothing(t *testing.T) {
	for _, n := range []int{1, 63, 64, 65, 130} {
		room := bytes.Repeat([]byte{5}, n+200)
		h := digest.New()
		h.Write(room[:n])
		if !bytes.Equal(room, bytes.Repeat([]byte{5}, n+200)) {
			t.Errorf("Write of %d bytes wrote into its argument", n)
		}
		clear(room)
		if got := h.Sum(); got != sha256.Sum256(bytes.Repeat([]byte{5}, n)) {
			t.Errorf("Sum of %d bytes hears of a later writing: %x", n, got)
		}
	}
}

// P2.4: nothing written changes nothing.
func TestWriteOfNothing(t *testing.T) {
	h := digest.New()
	h.Text("abc")
	h.Write(nil)
	h.Write([]byte{})
	h.Text("")
	if h.Sum() != digest.Of("abc") || h.Len() != 3 {
		t.Errorf("Sum %x, Len %d", h.Sum(), h.Len())
	}
}

// P2.4: from Copy on neither hears of the other, in the midst of a block and at its end.
func TestCopyStandsAlone(t *testing.T) {
	for _, n := range []int{0, 1, 63, 64, 100} {
		first := manyBytes(n)
		h := digest.New()
		h.Text(first)
		c := h.Copy()
		h.Text("of the one")
		c.Text("of the other, which is longer")
		if h.Sum() != digest.Of(first+"of the one") || h.Len() != uint64(n+10) {
			t.Errorf("%d bytes: the first hears of its copy", n)
		}
		if c.Sum() != digest.Of(first+"of the other, which is longer") || c.Len() != uint64(n+29) {
			t.Errorf("%d bytes: the copy is not right", n)
		}
		h.Reset()
		if c.Len() != uint64(n+29) {
			t.Errorf("%d bytes: the copy hears of Reset", n)
		}
	}
}

// R2: a Hash does not see another one.
func TestHashesAreApart(t *testing.T) {
	a, b := digest.New(), digest.New()
	a.Text("a")
	b.Text("b")
	if a.Sum() != digest.Of("a") || b.Sum() != digest.Of("b") {
		t.Errorf("Sums %x and %x", a.Sum(), b.Sum())
	}
}

// P2.5: a nil Hash does nothing and answers zeros.
func TestNilHash(t *testing.T) {
	var h *digest.Hash
	h.Write([]byte("abc"))
	h.Text(manyBytes(2000))
	h.Reset()
	if h.Sum() != ([32]byte{}) || h.Len() != 0 || h.Copy() != nil {
		t.Errorf("Sum %x, Len %d, Copy %v", h.Sum(), h.Len(), h.Copy())
	}
}

// R1: one that was not made by New does not panic.
func TestHashMadeOtherwise(t *testing.T) {
	h := &digest.Hash{}
	h.Text(manyBytes(100))
	h.Write([]byte(manyBytes(100)))
	h.Copy().Sum()
	h.Reset()
	h.Sum()
}
