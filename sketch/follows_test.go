package sketch_test

import (
	"math/rand"
	"slices"
	"testing"
)

// P16.7: the order in which items are added and taken away does not matter.
func TestOrderDoesNotMatter(t *testing.T) {
	r := rand.New(rand.NewSource(169))
	for range 100 {
		n := 3 + r.Intn(254)
		more, less := drawnItems(r, 50), drawnItems(r, 50)
		want := sum(t, n, more, less).Cells()
		places := r.Perm(len(more) + len(less))
		s := made(t, n)
		for _, i := range places {
			if i < len(more) {
				s.Add(more[i])
			} else {
				s.Take(less[i-len(more)])
			}
		}
		has(t, s, want)
		r.Shuffle(len(more), func(i, j int) { more[i], more[j] = more[j], more[i] })
		has(t, minus(t, sum(t, n, more, nil), sum(t, n, less, nil)), want)
	}
}

// P16.7: an item that is added and taken away leaves no trace, whatever cells it meets, either way round.
func TestThereAndBack(t *testing.T) {
	r := rand.New(rand.NewSource(170))
	for range 300 {
		n := 3 + r.Intn(254)
		cells := make([]cell, n)
		for i := range cells {
			cells[i] = cell{Count: int16(r.Uint32()), Item: r.Uint64(), Check: r.Uint32()}
		}
		s := from(t, cells)
		for _, x := range append(drawnItems(r, 10), 0, 1<<64-1) {
			s.Add(x)
			s.Take(x)
			has(t, s, cells)
			s.Take(x)
			s.Add(x)
			has(t, s, cells)
		}
	}
}

// P16.7: of two lists the sketches' difference is that of the entries that one of them alone has.
func TestMinusIsOfWhatOneHas(t *testing.T) {
	r := rand.New(rand.NewSource(171))
	for range 200 {
		n := 3 + r.Intn(254)
		var a, b, more, less []entry
		for i, e := range many(80, "") {
			other := many(80, "other")[i]
			switch r.Intn(10) {
			case 0:
				a, more = append(a, e), append(more, e)
			case 1:
				b, less = append(b, e), append(less, e)
			case 2:
				a, b, more, less = append(a, e), append(b, other), append(more, e), append(less, other)
			default:
				a, b = append(a, e), append(b, e)
			}
		}
		d := minus(t, of(t, a, n), of(t, b, n))
		has(t, d, sum(t, n, itemsOf(more), itemsOf(less)).Cells())
		has(t, d, wantCells(n, itemsOf(more), itemsOf(less)))
	}
}

// P16.8: where Peel tells whole, the sketch is the one of what was peeled; of cells that items made, and of others.
func TestWholeIsWhatWasPeeled(t *testing.T) {
	r := rand.New(rand.NewSource(172))
	met := 0
	for i := range 3000 {
		n := 3 + r.Intn(60)
		cells := wantCells(n, drawnItems(r, 1+n/5), drawnItems(r, 1+n/5))
		if i%2 == 0 {
			cells = drawnCells(r, n)
		}
		more, less, whole := from(t, cells).Peel()
		if !slices.IsSorted(more) || !slices.IsSorted(less) || len(more)+len(less) > n {
			t.Fatalf("%x, %x", more, less)
		}
		if whole {
			met++
			has(t, sum(t, n, more, less), cells)
		}
	}
	if met < 800 {
		t.Errorf("%d were whole", met)
	}
}

// P16.8: one item alone, added or taken, comes out, of every number of cells.
func TestOneItemComesOut(t *testing.T) {
	r := rand.New(rand.NewSource(173))
	for _, n := range sizes() {
		for _, x := range slices.Concat(items(), drawnItems(r, 40)) {
			peels(t, sum(t, n, []uint64{x}, nil), peeled{more: []uint64{x}, whole: true})
			peels(t, sum(t, n, nil, []uint64{x}), peeled{less: []uint64{x}, whole: true})
		}
	}
}

// P16.8: a few items, of two great lists, come out of many cells.
func TestFewOfManyComeOut(t *testing.T) {
	a, b := many(5000, ""), many(5000, "")
	a[17].Sum, b[4000].Sum = "one", "another"
	a, b = append(a, entry{Key: "mine", Sum: "x"}), slices.Delete(b, 99, 100)
	more := []entry{a[17], {Key: "mine", Sum: "x"}, a[99], many(5000, "")[4000]}
	less := []entry{many(5000, "")[17], {Key: b[3999].Key, Sum: "another"}}
	d := minus(t, of(t, a, 60), of(t, b, 60))
	peels(t, d, peeled{more: rising(itemsOf(more)), less: rising(itemsOf(less)), whole: true})
}

// P16.9: From of Cells is the same sketch: it has the same cells, peels the same, and goes on the same.
func TestFromOfCells(t *testing.T) {
	r := rand.New(rand.NewSource(174))
	for i := range 2000 {
		n := 3 + r.Intn(254)
		s := sum(t, n, drawnItems(r, 1+n/5), drawnItems(r, 1+n/5))
		if i%2 == 0 {
			n = 3 + r.Intn(30)
			s = from(t, drawnCells(r, n))
		}
		back := from(t, s.Cells())
		has(t, back, s.Cells())
		more, less, whole := s.Peel()
		peels(t, back, peeled{more, less, whole})
		x, y := r.Uint64(), r.Uint64()
		for _, u := range []interface {
			Add(uint64)
			Take(uint64)
		}{s, back} {
			u.Add(x)
			u.Take(y)
		}
		has(t, back, s.Cells())
		has(t, minus(t, s, back), make([]cell, n))
	}
}
