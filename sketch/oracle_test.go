package sketch_test

import (
	"crypto/sha256"
	"math/big"
	"slices"

	"concord/api"
)

// The oracle tells what the chapter asks for, by other means than the package: the library's SHA-256, numbers without bound that are cut to 64 bits, cells that are summed up one by one.

var (
	modulo = new(big.Int).Lsh(big.NewInt(1), 64)
	stride = hexadecimal("9E3779B97F4A7C15")
	steps  = []struct {
		down   uint
		factor *big.Int
	}{{30, hexadecimal("BF58476D1CE4E5B9")}, {27, hexadecimal("94D049BB133111EB")}, {31, hexadecimal("1")}}
)

// hexadecimal is a number out of its digits.
func hexadecimal(digits string) *big.Int {
	n, _ := new(big.Int).SetString(digits, 16)
	return n
}

// wantMix is Mix(x, j).
func wantMix(x uint64, j int) uint64 {
	z := new(big.Int).Mul(big.NewInt(int64(j+1)), stride)
	z.Add(z, new(big.Int).SetUint64(x)).Mod(z, modulo)
	for _, step := range steps {
		z.Xor(z, new(big.Int).Rsh(z, step.down))
		z.Mul(z, step.factor).Mod(z, modulo)
	}
	return z.Uint64()
}

// wantPlaces are the three cells of an item, of n.
func wantPlaces(x uint64, n int) []int {
	k := n / 3
	var at []int
	for j := range 3 {
		at = append(at, j*k+int(wantMix(x, j)%uint64(k)))
	}
	return at
}

func wantCheck(x uint64) uint32 { return uint32(wantMix(x, 3) % (1 << 32)) }

// number is a number to the base 128, the lowest digit first.
func number(n int) string {
	if n < 128 {
		return string([]byte{byte(n)})
	}
	return string([]byte{byte(n%128 + 128)}) + number(n/128)
}

// bytesAsNumber is a number out of its bytes, the highest first.
func bytesAsNumber(b []byte) uint64 {
	return new(big.Int).SetBytes(b).Uint64()
}

// wantSegment are the first three hexadecimal digits of the hash.
func wantSegment(key string) uint64 {
	sum := sha256.Sum256([]byte("K" + key))
	return uint64(sum[0])*16 + uint64(sum[1])/16
}

func wantItem(e api.Entry) uint64 {
	sum := sha256.Sum256([]byte("I" + number(len(e.Key)) + e.Key + number(len(e.Sum)) + e.Sum))
	return wantSegment(e.Key)*(1<<48) + bytesAsNumber(sum[:6])
}

// wantCells are n cells to which some items were added, and from which others were taken.
func wantCells(n int, added, taken []uint64) []cell {
	cells := make([]cell, n)
	for _, side := range []struct {
		items []uint64
		by    int
	}{{added, 1}, {taken, -1}} {
		for _, x := range side.items {
			for _, i := range wantPlaces(x, n) {
				c := cells[i]
				cells[i] = cell{Count: int16(int(c.Count) + side.by), Item: c.Item ^ x, Check: c.Check ^ wantCheck(x)}
			}
		}
	}
	return cells
}

// wantLess are the cells of one sketch less those of another.
func wantLess(a, b []cell) []cell {
	var out []cell
	for i := range a {
		out = append(out, cell{Count: int16(int(a[i].Count) - int(b[i].Count)), Item: a[i].Item ^ b[i].Item, Check: a[i].Check ^ b[i].Check})
	}
	return out
}

func wantPure(cells []cell, i int) bool {
	c := cells[i]
	return (c.Count == 1 || c.Count == -1) && c.Check == wantCheck(c.Item) && slices.Contains(wantPlaces(c.Item, len(cells)), i)
}

// peeled is what Peel tells.
type peeled struct {
	more, less []uint64
	whole      bool
}

// wantPeel peels cells at most times times, which the chapter asks to be their number.
func wantPeel(cells []cell, times int) peeled {
	for i := range cells {
		if times == 0 || !wantPure(cells, i) {
			continue
		}
		x := cells[i].Item
		var p peeled
		if cells[i].Count == 1 {
			p = wantPeel(wantLess(cells, wantCells(len(cells), []uint64{x}, nil)), times-1)
			p.more = append(p.more, x)
		} else {
			p = wantPeel(wantLess(cells, wantCells(len(cells), nil, []uint64{x})), times-1)
			p.less = append(p.less, x)
		}
		slices.Sort(p.more)
		slices.Sort(p.less)
		return p
	}
	return peeled{whole: slices.Equal(cells, make([]cell, len(cells)))}
}
