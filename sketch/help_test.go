package sketch_test

import (
	"fmt"
	"math"
	"math/rand"
	"slices"
	"strings"
	"testing"

	"concord/api"
	"concord/sketch"
)

type (
	entry = api.Entry
	cell  = api.SketchCell
)

// made is a sketch of n cells.
func made(t *testing.T, n int) *sketch.Sketch {
	t.Helper()
	s, e := sketch.New(n)
	if s == nil || e != api.OK {
		t.Fatalf("New(%d): %v, %v", n, s, e)
	}
	return s
}

// from is a sketch of these cells.
func from(t *testing.T, cells []cell) *sketch.Sketch {
	t.Helper()
	s, e := sketch.From(cells)
	if s == nil || e != api.OK {
		t.Fatalf("From of %d: %v, %v", len(cells), s, e)
	}
	return s
}

// of is a sketch of entries.
func of(t *testing.T, l []entry, n int) *sketch.Sketch {
	t.Helper()
	s, e := sketch.Of(l, n)
	if s == nil || e != api.OK {
		t.Fatalf("Of(%d entries, %d): %v, %v", len(l), n, s, e)
	}
	return s
}

// sum is a sketch to which items were added, and from which others were taken.
func sum(t *testing.T, n int, added, taken []uint64) *sketch.Sketch {
	t.Helper()
	s := made(t, n)
	for _, x := range added {
		s.Add(x)
	}
	for _, x := range taken {
		s.Take(x)
	}
	return s
}

// minus is what Minus tells where it is OK.
func minus(t *testing.T, a, b *sketch.Sketch) *sketch.Sketch {
	t.Helper()
	d, e := a.Minus(b)
	if d == nil || e != api.OK {
		t.Fatalf("Minus: %v, %v", d, e)
	}
	return d
}

// has holds a sketch's cells against what they should be.
func has(t *testing.T, s *sketch.Sketch, want []cell) {
	t.Helper()
	if got := s.Cells(); !slices.Equal(got, want) {
		t.Fatalf("the cells %v, want %v", got, want)
	}
}

// peels holds what Peel tells against what it should be.
func peels(t *testing.T, s *sketch.Sketch, want peeled) {
	t.Helper()
	more, less, whole := s.Peel()
	if !slices.Equal(more, want.more) || !slices.Equal(less, want.less) || whole != want.whole {
		t.Fatalf("Peel of %v: %x, %x, %v, want %x, %x, %v", s.Cells(), more, less, whole, want.more, want.less, want.whole)
	}
}

// peelsAsAsked holds Peel of some cells against the oracle, asks that the sketch stays, and answers what was peeled.
func peelsAsAsked(t *testing.T, cells []cell) peeled {
	t.Helper()
	s, want := from(t, cells), wantPeel(cells, len(cells))
	peels(t, s, want)
	has(t, s, cells)
	return want
}

// sizes are all numbers of cells that there may be; noSizes are some that may not.
func sizes() []int {
	var all []int
	for n := 3; n <= 256; n++ {
		all = append(all, n)
	}
	return all
}

func noSizes() []int {
	all := []int{-1, -3, -30, -256, 65536, 65539, 65536 + 30, 1<<32 + 30, math.MaxInt, math.MinInt, math.MinInt + 30}
	for n := 257; n < 1000; n++ {
		all = append(all, n)
	}
	return append(all, 0, 1, 2)
}

// items are some, at their edges.
func items() []uint64 {
	all := []uint64{0, 1, 2, 5, 7, 9, 255, 256, 1<<16 - 1, 1<<48 - 1, 1 << 48, 1<<48 + 1, 4095 << 48, 4096 << 48, 2005<<48 + 77, 1<<64 - 1, 1<<64 - 2, 1<<63 - 1, 1 << 63, 0x9e3779b97f4a7c15, 1<<64 - 0x9e3779b97f4a7c15}
	for bit := range 64 {
		all = append(all, 1<<bit)
	}
	return all
}

func drawnItems(r *rand.Rand, most int) []uint64 {
	var l []uint64
	for range r.Intn(most + 1) {
		l = append(l, r.Uint64())
	}
	return l
}

// entries are some, at the edges of their texts' lengths, and such that may be in no list.
func entries() []entry {
	var texts []string
	for _, n := range []int{0, 1, 2, 8, 31, 32, 33, 54, 55, 56, 64, 127, 128, 129, 255, 256, 16383, 16384, 1_000_000} {
		for _, text := range []string{"k", "\x00", "\xff"} {
			texts = append(texts, strings.Repeat(text, n))
		}
	}
	var all []entry
	for _, text := range texts {
		all = append(all, entry{Key: text, Sum: "x"}, entry{Key: "a", Sum: text}, entry{Sum: text}, entry{Key: text}, entry{Key: text, Sum: text[:len(text)/2]})
	}
	for b := range 256 {
		all = append(all, entry{Key: string([]byte{byte(b)}), Sum: string([]byte{byte(255 - b), byte(b)})})
	}
	return all
}

// many are n entries of unlike keys, with a sum of eight bytes that hangs on the key and a word.
func many(n int, word string) []entry {
	var l []entry
	for i := range n {
		l = append(l, entry{Key: fmt.Sprintf("%04x", i), Sum: fmt.Sprintf("%8.8s", fmt.Sprintf("%d%s", i*i, word))})
	}
	return l
}

// itemsOf are the items of entries, as the oracle tells them.
func itemsOf(l []entry) []uint64 {
	var out []uint64
	for _, e := range l {
		out = append(out, wantItem(e))
	}
	return out
}

// rising are the same items in their order.
func rising(l []uint64) []uint64 {
	out := slices.Clone(l)
	slices.Sort(out)
	return out
}

// at is an item that has the cell i, of n, among its places: the first one from a number on.
func at(i, n int, from uint64) uint64 {
	for !slices.Contains(wantPlaces(from, n), i) {
		from++
	}
	return from
}

// pure is a cell that has this item alone, count times.
func pure(x uint64, count int16) cell { return cell{Count: count, Item: x, Check: wantCheck(x)} }

// drawnCells are cells as a hand may make them: sums of items, such that are pure at their place or nearly so, and such that are any.
func drawnCells(r *rand.Rand, n int) []cell {
	cells := wantCells(n, drawnItems(r, 2), drawnItems(r, 2))
	for range r.Intn(n) {
		i := r.Intn(n)
		x := r.Uint64()
		if i < n/3*3 && r.Intn(3) > 0 { // the cells from 3k on are nobody's
			x = at(i, n, x)
		}
		c := pure(x, int16(1-2*r.Intn(2)))
		switch r.Intn(8) {
		case 0:
			c.Count = int16(r.Intn(7) - 3)
		case 1:
			c.Check ^= 1 << r.Intn(32)
		case 2:
			c.Item ^= 1 << r.Intn(64)
		}
		cells[i] = c
	}
	return cells
}

// roomy are the same things with marked room behind their end.
func roomy[T any](l []T, mark T) []T {
	out := slices.Clone(l)
	for range 300 {
		out = append(out, mark)
	}
	return out[:len(l)]
}

// whole are things with what stands in the room behind their end.
func whole[T any](l []T) []T { return l[:cap(l)] }

// scribble writes over a list, and over the room behind its end.
func scribble[T any](l []T, over T) {
	for i := range whole(l) {
		whole(l)[i] = over
	}
}

var (
	markedCell  = cell{Count: 77, Item: 77, Check: 77}
	markedEntry = entry{Key: "scribbled", Sum: "scribbled"}
)
