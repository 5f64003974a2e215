package sketch_test

import (
	"math/rand"
	"slices"
	"testing"
)

// P16.5: of some items, more and less, in many cells and in few; where few are, not all come out.
func TestPeelOfItems(t *testing.T) {
	r := rand.New(rand.NewSource(166))
	met := map[bool]int{}
	partly := 0
	for range 1500 {
		n := 3 + r.Intn(254)
		if r.Intn(2) == 0 {
			n = 3 + r.Intn(40)
		}
		most := 1 + n/2
		p := peelsAsAsked(t, wantCells(n, drawnItems(r, most), drawnItems(r, most)))
		met[p.whole]++
		if !p.whole && len(p.more)+len(p.less) > 0 {
			partly++
		}
	}
	if met[true] < 500 || met[false] < 300 || partly < 150 {
		t.Errorf("whole or not: %v, in part %d", met, partly)
	}
}

// P16.5: cells as a hand may make them.
func TestPeelOfDrawnCells(t *testing.T) {
	r := rand.New(rand.NewSource(167))
	met := map[bool]int{}
	often := 0
	for range 4000 {
		n := 3 + r.Intn(14)
		p := peelsAsAsked(t, drawnCells(r, n))
		met[p.whole]++
		if len(p.more)+len(p.less) == n {
			often++
		}
	}
	if met[true] < 100 || met[false] < 1000 || often < 500 {
		t.Errorf("whole or not: %v, to the last round: %d", met, often)
	}
}

// P16.5: a cell alone makes the other two of its item pure the other way; so it goes to and fro, as often as there are cells.
func TestPeelGoesToAndFro(t *testing.T) {
	for _, n := range sizes() {
		for _, count := range []int16{1, -1} {
			cells := make([]cell, n)
			cells[0] = pure(at(0, n, 1000), count)
			x := cells[0].Item
			ahead, behind := slices.Repeat([]uint64{x}, (n+1)/2), slices.Repeat([]uint64{x}, n/2)
			want := peeled{more: ahead, less: behind}
			if count < 0 {
				want = peeled{more: behind, less: ahead}
			}
			peels(t, from(t, cells), want)
		}
	}
}

// P16.5: what is not pure is not peeled: another Count, another Check by any bit, a cell that is none of the item's places.
func TestPeelOfWhatIsNotPure(t *testing.T) {
	for _, n := range []int{3, 4, 6, 7, 30, 100, 254, 255, 256} {
		x := at(0, n, 5)
		for _, count := range []int16{0, 2, -2, 3, 255, 257, -255, 32767, -32768, -32767} {
			cells := make([]cell, n)
			cells[0] = pure(x, count)
			peels(t, from(t, cells), peeled{})
		}
		for bit := range 32 {
			cells := make([]cell, n)
			cells[0] = pure(x, 1)
			cells[0].Check ^= 1 << bit
			peels(t, from(t, cells), peeled{})
		}
		for i := range n {
			cells := make([]cell, n)
			cells[i] = pure(x, 1)
			p := peelsAsAsked(t, cells)
			if slices.Contains(wantPlaces(x, n), i) != (len(p.more) > 0) {
				t.Errorf("the cell %d of %d: %x", i, n, p.more)
			}
		}
	}
}

// P16.5: whole asks all cells, those that are nobody's too, and each part of a cell.
func TestWholeAsksAllCells(t *testing.T) {
	for _, n := range []int{3, 4, 5, 30, 31, 32, 254, 255, 256} {
		peels(t, made(t, n), peeled{whole: true})
		for i := range n {
			for _, c := range []cell{{Count: 2}, {Count: -32768}, {Item: 1}, {Item: 1 << 63}, {Check: 1}, {Check: 1 << 31}} {
				cells := make([]cell, n)
				cells[i] = c
				peels(t, from(t, cells), peeled{})
			}
		}
	}
	for _, n := range []int{4, 5, 31, 32, 256} {
		for i := n / 3 * 3; i < n; i++ {
			cells := wantCells(n, []uint64{7}, nil)
			cells[i] = pure(7, 1)
			peels(t, from(t, cells), peeled{more: []uint64{7}})
		}
	}
}

// P16.5: of the pure cells the one with the least number comes first; from other ones on it would go elsewhere.
func TestPeelBeginsAtTheLeast(t *testing.T) {
	const n = 6
	unlike := 0
	for i := range uint64(200) {
		x, y := at(0, n, 1000*i), at(5, n, 1000*i+500)
		cells := make([]cell, n)
		cells[0], cells[5] = pure(x, 1), pure(y, 1)
		p := peelsAsAsked(t, cells)
		first := wantPeel(wantLess(cells, wantCells(n, []uint64{y}, nil)), n-1)
		first.more = rising(append(first.more, y))
		if !slices.Equal(p.more, first.more) || !slices.Equal(p.less, first.less) {
			unlike++
		}
	}
	if unlike < 50 {
		t.Errorf("the order is to be seen %d times", unlike)
	}
}

// P16.5: what is peeled is told rising, in whatever order it was peeled, and the sketch stays.
func TestPeelTellsRising(t *testing.T) {
	r := rand.New(rand.NewSource(168))
	for range 100 {
		more, less := drawnItems(r, 30), drawnItems(r, 30)
		s := sum(t, 256, more, less)
		was := s.Cells()
		want := wantPeel(was, 256)
		for range 2 {
			peels(t, s, want)
			has(t, s, was)
		}
		if !want.whole {
			continue
		}
		if !slices.Equal(want.more, rising(more)) || !slices.Equal(want.less, rising(less)) {
			t.Fatalf("peeled %x, %x, put in %x, %x", want.more, want.less, more, less)
		}
	}
}
