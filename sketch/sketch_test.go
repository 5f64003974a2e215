package sketch_test

import (
	"math/rand"
	"slices"
	"testing"

	"concord/api"
	"concord/sketch"
)

// P16.2: a new sketch of every number of cells has nothing in them.
func TestNew(t *testing.T) {
	for _, n := range sizes() {
		has(t, made(t, n), make([]cell, n))
		has(t, of(t, nil, n), make([]cell, n))
		has(t, from(t, make([]cell, n)), make([]cell, n))
	}
}

// P16.2: numbers of cells that may not be.
func TestNewOfNoSize(t *testing.T) {
	for _, n := range noSizes() {
		if s, e := sketch.New(n); s != nil || e != api.ErrArg {
			t.Errorf("New(%d): %v, %v", n, s, e)
		}
		for _, l := range [][]entry{nil, {}, many(3, ""), make([]entry, 2)} {
			if s, e := sketch.Of(l, n); s != nil || e != api.ErrArg {
				t.Errorf("Of(%d entries, %d): %v, %v", len(l), n, s, e)
			}
		}
	}
	for _, n := range []int{0, 1, 2, 257, 258, 300, 512, 259 + 256, 65536, 65539} {
		if s, e := sketch.From(make([]cell, n)); s != nil || e != api.ErrArg {
			t.Errorf("From of %d: %v, %v", n, s, e)
		}
	}
	if s, e := sketch.From(nil); s != nil || e != api.ErrArg {
		t.Errorf("From of nil: %v, %v", s, e)
	}
}

// P16.2: the items of all entries, whatever they are: such that are twice, such that are in no list.
func TestOf(t *testing.T) {
	odd := []entry{{}, {}, {Key: "b", Sum: "x"}, {Key: "a", Sum: "yy"}, {Key: "a", Sum: "yy"}, {Key: "a", Sum: "yy"}, {Key: "a"}, {Sum: "y"}}
	for _, l := range [][]entry{odd, many(1, ""), many(100, ""), entries()[:60], slices.Concat(odd, odd)} {
		for _, n := range []int{3, 4, 5, 6, 30, 31, 100, 255, 256} {
			has(t, of(t, l, n), wantCells(n, itemsOf(l), nil))
		}
	}
}

// P16.2: From takes any cells, whether items make them or not.
func TestFrom(t *testing.T) {
	r := rand.New(rand.NewSource(162))
	for _, n := range sizes() {
		cells := make([]cell, n)
		for i := range cells {
			cells[i] = cell{Count: int16(r.Uint32()), Item: r.Uint64(), Check: r.Uint32()}
		}
		has(t, from(t, cells), cells)
	}
}

// P16.3: one item, at every edge and in every number of cells, added and taken.
func TestOneItem(t *testing.T) {
	r := rand.New(rand.NewSource(163))
	for _, n := range sizes() {
		for _, x := range []uint64{0, 1<<64 - 1, r.Uint64()} {
			has(t, sum(t, n, []uint64{x}, nil), wantCells(n, []uint64{x}, nil))
			has(t, sum(t, n, nil, []uint64{x}), wantCells(n, nil, []uint64{x}))
		}
	}
	for _, n := range []int{3, 7, 128, 256} {
		for _, x := range items() {
			has(t, sum(t, n, []uint64{x}, nil), wantCells(n, []uint64{x}, nil))
			has(t, sum(t, n, nil, []uint64{x}), wantCells(n, nil, []uint64{x}))
		}
	}
}

// P16.3: many drawn items, behind each of which the cells are told.
func TestManyItems(t *testing.T) {
	r := rand.New(rand.NewSource(164))
	for range 60 {
		n := 3 + r.Intn(254)
		s := made(t, n)
		var added, taken []uint64
		for range 30 {
			x := r.Uint64()
			if len(added) > 0 && r.Intn(3) == 0 {
				x = added[r.Intn(len(added))]
			}
			if r.Intn(2) == 0 {
				s.Add(x)
				added = append(added, x)
			} else {
				s.Take(x)
				taken = append(taken, x)
			}
			has(t, s, wantCells(n, added, taken))
		}
	}
}

// P16.3: counts wrap round, upward and downward, by Add and Take.
func TestCountsWrap(t *testing.T) {
	top, bottom := cell{Count: 32767, Item: 3, Check: 4}, cell{Count: -32768, Item: 3, Check: 4}
	for _, x := range items() {
		s := from(t, []cell{top, top, top})
		s.Add(x)
		has(t, s, slices.Repeat([]cell{{Count: -32768, Item: 3 ^ x, Check: 4 ^ wantCheck(x)}}, 3))
		s.Take(x)
		has(t, s, []cell{top, top, top})
		s = from(t, []cell{bottom, bottom, bottom})
		s.Take(x)
		has(t, s, slices.Repeat([]cell{{Count: 32767, Item: 3 ^ x, Check: 4 ^ wantCheck(x)}}, 3))
	}
	s := made(t, 3)
	for range 65535 {
		s.Add(7)
	}
	has(t, s, slices.Repeat([]cell{{Count: -1, Item: 7, Check: wantCheck(7)}}, 3))
	peels(t, s, peeled{less: []uint64{7}, whole: true})
	s.Add(7)
	has(t, s, make([]cell, 3))
}

// P16.4: drawn sketches; both stay as they are, and the difference hears of neither any more.
func TestMinus(t *testing.T) {
	r := rand.New(rand.NewSource(165))
	for range 500 {
		n := 3 + r.Intn(254)
		x, y := make([]cell, n), make([]cell, n)
		for i := range n {
			x[i] = cell{Count: int16(r.Uint32()), Item: r.Uint64(), Check: r.Uint32()}
			y[i] = cell{Count: int16(r.Uint32()), Item: r.Uint64(), Check: r.Uint32()}
			if r.Intn(4) == 0 {
				y[i] = x[i]
			}
		}
		a, b := from(t, x), from(t, y)
		d := minus(t, a, b)
		has(t, d, wantLess(x, y))
		has(t, a, x)
		has(t, b, y)
		a.Add(7)
		b.Take(7)
		has(t, d, wantLess(x, y))
		d.Add(9)
		has(t, b, wantLess(y, wantCells(n, []uint64{7}, nil)))
	}
}

// P16.4: the Counts' difference wraps round.
func TestMinusWraps(t *testing.T) {
	counts := []int16{0, 1, -1, 2, -2, 32767, 32766, -32768, -32767, 256, -256}
	for _, p := range counts {
		for _, q := range counts {
			x, y := []cell{{Count: p}, {}, {}}, []cell{{Count: q}, {}, {}}
			has(t, minus(t, from(t, x), from(t, y)), []cell{{Count: int16(int(p) - int(q))}, {}, {}})
		}
	}
}

// P16.4: a sketch less itself is nothing.
func TestMinusItself(t *testing.T) {
	for _, n := range sizes() {
		s := of(t, many(40, ""), n)
		was := s.Cells()
		has(t, minus(t, s, s), make([]cell, n))
		has(t, s, was)
	}
}

// P16.4: unlike numbers of cells, those of which a third is the same too; none at all.
func TestMinusErrors(t *testing.T) {
	for _, n := range []int{3, 4, 5, 6, 30, 31, 255, 256} {
		a := of(t, many(40, ""), n)
		for _, m := range sizes() {
			d, e := a.Minus(made(t, m))
			if n == m && (d == nil || e != api.OK) || n != m && (d != nil || e != api.ErrSketch) {
				t.Errorf("%d Minus %d: %v, %v", n, m, d, e)
			}
		}
		if d, e := a.Minus(nil); d != nil || e != api.ErrNil {
			t.Errorf("Minus of nil: %v, %v", d, e)
		}
	}
}

// P16.6: a nil sketch.
func TestNilSketch(t *testing.T) {
	var s *sketch.Sketch
	s.Add(7)
	s.Take(9)
	for _, o := range []*sketch.Sketch{nil, made(t, 3), of(t, many(9, ""), 256)} {
		if d, e := s.Minus(o); d != nil || e != api.ErrNil {
			t.Errorf("Minus: %v, %v", d, e)
		}
	}
	if more, less, whole := s.Peel(); len(more) != 0 || len(less) != 0 || whole {
		t.Errorf("Peel: %v, %v, %v", more, less, whole)
	}
	if c := s.Cells(); len(c) != 0 {
		t.Errorf("Cells: %v", c)
	}
}

// R1: a sketch that came from no call of the package does no harm.
func TestMadeSketch(t *testing.T) {
	s := &sketch.Sketch{}
	s.Add(7)
	s.Take(9)
	s.Peel()
	s.Cells()
	for _, o := range []*sketch.Sketch{nil, s, made(t, 3), {}} {
		s.Minus(o)
		o.Minus(s)
	}
}

// R2: sketches do not see one another.
func TestSketchesApart(t *testing.T) {
	a, b := made(t, 30), made(t, 30)
	a.Add(7)
	b.Take(9)
	has(t, a, wantCells(30, []uint64{7}, nil))
	has(t, b, wantCells(30, nil, []uint64{9}))
	c := from(t, a.Cells())
	c.Add(11)
	has(t, a, wantCells(30, []uint64{7}, nil))
	has(t, c, wantCells(30, []uint64{7, 11}, nil))
}

// R3: what is handed in is not changed and not kept.
func TestNothingIsKept(t *testing.T) {
	l := roomy(many(50, ""), markedEntry)
	was := slices.Clone(whole(l))
	s := of(t, l, 60)
	if !slices.Equal(whole(l), was) {
		t.Error("Of wrote into its argument")
	}
	scribble(l, entry{})
	has(t, s, wantCells(60, itemsOf(many(50, "")), nil))

	cells := roomy(wantCells(60, items(), nil), markedCell)
	then := slices.Clone(whole(cells))
	u := from(t, cells)
	u.Add(7)
	u.Peel()
	minus(t, u, s).Add(7)
	if !slices.Equal(whole(cells), then) {
		t.Error("From wrote into its argument, or something behind it did")
	}
	scribble(cells, markedCell)
	has(t, u, wantCells(60, append(items(), 7), nil))
}

// R3: what is handed out is new memory, with its spare room.
func TestToldIsNewMemory(t *testing.T) {
	for _, n := range []int{3, 30, 60, 255, 256} {
		s := sum(t, n, items()[:n/5], items()[n/5:n/4])
		want := wantCells(n, items()[:n/5], items()[n/5:n/4])
		one, other := s.Cells(), s.Cells()
		scribble(one, markedCell)
		if !slices.Equal(other, want) {
			t.Fatalf("of %d: two answers of Cells share memory", n)
		}
		scribble(other, markedCell)
		has(t, s, want)

		more, less, _ := s.Peel()
		moreAgain, lessAgain, _ := s.Peel()
		p := wantPeel(want, n)
		scribble(more, 77)
		if !slices.Equal(less, p.less) {
			t.Fatalf("of %d: more and less share memory", n)
		}
		scribble(less, 77)
		if !slices.Equal(moreAgain, p.more) || !slices.Equal(lessAgain, p.less) {
			t.Fatalf("of %d: two answers of Peel share memory", n)
		}
		has(t, s, want)
	}
}
