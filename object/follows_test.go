package object_test

import (
	"cmp"
	"math/rand"
	"slices"
	"testing"

	"concord/api"
	"concord/object"
)

// P13.6: Unpack of Pack is the object, and Pack of that the cell; two that are not absent have one form just if they are the Same.
func TestOneText(t *testing.T) {
	r := rand.New(rand.NewSource(137))
	all := objects()
	for range 20000 {
		all = append(all, drawn(r))
	}
	byForm := map[string]api.Object{}
	byCell := map[api.Cell]api.Object{}
	again := 0
	for _, o := range all {
		c, e := object.Pack(o)
		if e != api.OK {
			continue
		}
		back, e := object.Unpack(c)
		if e != api.OK || !object.Same(back, o) {
			t.Fatalf("%v: there and back: %v, %v", o, back, e)
		}
		if d, e := object.Pack(back); d != c || e != api.OK {
			t.Fatalf("%v: packed again: %v, %v", o, d, e)
		}
		f, _ := object.Form(o)
		if g, _ := object.Form(back); g != f || f == "" {
			t.Fatalf("%v: the forms % x and % x", o, f, g)
		}
		if other, is := byForm[f]; is {
			again++
			if !object.Same(other, o) {
				t.Fatalf("%v and %v have one form", other, o)
			}
		}
		if other, is := byCell[c]; is && !object.Same(other, o) {
			t.Fatalf("%v and %v have one cell", other, o)
		}
		byForm[f], byCell[c] = o, o
	}
	if len(byForm) != len(byCell) || len(byForm) < 5000 || again < 500 {
		t.Errorf("%d forms, %d cells, %d again", len(byForm), len(byCell), again)
	}
}

// P13.6: where a key ends and the state begins is told by the form.
func TestKeysWithinForms(t *testing.T) {
	seen := map[string]api.Object{}
	for _, key := range []string{"\x01", "\x01\x01", "\x01\x01\x01", "\x01\x01\x01\x01", "\x01\x01\x01\x00", "\x02\x01"} {
		for _, s := range []string{"1:1;", "1:1; 1:1=", "1:1 2:1;", "1:1; 1:1-"} {
			o := of(key, s)
			f, e := object.Form(o)
			if other, is := seen[f]; is || e != api.OK {
				t.Errorf("%v: % x, %v, as of %v", o, f, e, other)
			}
			seen[f] = o
		}
	}
}

// wantTold looks whether what came out may be, and is not absent where one of what went in was not.
func wantTold(t *testing.T, o api.Object, in ...api.Object) {
	t.Helper()
	if e := object.Check(o); e != api.OK {
		t.Errorf("Check(%v): %v", o, e)
	}
	absent := true
	for _, x := range in {
		absent = absent && len(x.State.Seen) == 0
	}
	if !absent && len(o.State.Seen) == 0 {
		t.Errorf("of %v came nothing", in)
	}
	if c, e := object.Pack(o); e == api.OK && len(c.Key)+len(c.Value) > api.MaxCell {
		t.Errorf("a cell of %d bytes", len(c.Key)+len(c.Value))
	}
}

// P13.7, P4, P8: what Put tells may be; it is never absent.
func TestPutsMayBe(t *testing.T) {
	r := rand.New(rand.NewSource(138))
	told := 0
	for range 200 {
		o := api.Object{Key: drawnKey(r)}
		for range 40 {
			ctx := drawnState(r).Seen
			if r.Intn(2) == 0 {
				ctx = o.State.Seen
			}
			x := drawnSibling(r, api.Dot{}, 41)
			after, d, e := object.Put(o, ctx, uint32(r.Intn(4)), x.Value, x.Gone)
			if e != api.OK {
				continue
			}
			told++
			wantTold(t, after, o)
			x.Dot = d
			if len(after.State.Seen) == 0 || after.Key != o.Key || !slices.Contains(after.State.Siblings, x) {
				t.Errorf("Put upon %v told %v", o, after)
			}
			if m, e := object.Merge(o, after); e != api.OK || !object.Same(m, after) {
				t.Errorf("Put upon %v told %v, which is not above", o, after)
			}
			o = after
		}
	}
	if told < 2000 {
		t.Errorf("only %d puts were told", told)
	}
}

// wantMergesOf looks at what is promised of the merges of three objects of one key, where both sides are OK; it tells how many were.
func wantMergesOf(t *testing.T, a, b, c api.Object) int {
	t.Helper()
	ab, e1 := object.Merge(a, b)
	ba, e2 := object.Merge(b, a)
	if e1 != e2 || e1 == api.OK && !object.Same(ab, ba) {
		t.Errorf("Merge(%v, %v): %v, %v; turned: %v, %v", a, b, ab, e1, ba, e2)
	}
	if aa, e := object.Merge(a, a); e != api.OK || !object.Same(aa, a) {
		t.Errorf("Merge(%v) with itself: %v, %v", a, aa, e)
	}
	if e1 != api.OK {
		return 0
	}
	wantTold(t, ab, a, b)
	bc, e := object.Merge(b, c)
	if e != api.OK {
		return 1
	}
	right, e := object.Merge(a, bc)
	left, f := object.Merge(ab, c)
	if e != api.OK || f != api.OK {
		return 2
	}
	if !object.Same(left, right) {
		t.Errorf("Merge of %v, %v, %v: %v and %v", a, b, c, left, right)
	}
	wantTold(t, left, a, b, c)
	return 3
}

// P13.7, P8: merges of few bytes, all of which are OK.
func TestMergesAreOne(t *testing.T) {
	r := rand.New(rand.NewSource(139))
	for range 10000 {
		if wantMergesOf(t, drawnFew(r), drawnFew(r), drawnFew(r)) < 3 {
			t.Error("a merge of few bytes was refused")
		}
		if t.Failed() {
			t.FailNow()
		}
	}
}

// P13.7: about the bound, where one side may be refused and the other not.
func TestMergesAboutTheBound(t *testing.T) {
	r := rand.New(rand.NewSource(140))
	met := make([]int, 4)
	for range 5000 {
		var o [3]api.Object
		for i := range o {
			o[i] = api.Object{Key: "k", State: sized(60+r.Intn(140), uint32(i))}
			if r.Intn(3) == 0 { // it has seen, and dropped, what another one holds
				o[i].State.Seen = least(o[i].State.Seen, many(1, uint32(r.Intn(3)), 64))
			}
		}
		met[wantMergesOf(t, o[0], o[1], o[2])]++
		if t.Failed() {
			t.FailNow()
		}
	}
	for _, s := range states() {
		for _, u := range states() {
			met[wantMergesOf(t, api.Object{Key: "k", State: s}, api.Object{Key: "k", State: u}, of("k", "1:1; 1:1=x"))]++
		}
	}
	if slices.Min(met) < 20 {
		t.Errorf("how far the merges went: %v", met)
	}
}

// P13.7: no cell has more than MaxCell bytes; the greatest has 314.
func TestGreatestCell(t *testing.T) {
	most := 0
	for _, key := range keys() {
		for _, s := range states() {
			if c, e := object.Pack(api.Object{Key: key, State: s}); e == api.OK {
				most = max(most, len(c.Key)+len(c.Value))
			}
		}
	}
	if most != 314 || most > api.MaxCell {
		t.Errorf("the greatest cell has %d bytes", most)
	}
}

// P13.8: cells stand by segment, and within one by key.
func TestCellsInOrder(t *testing.T) {
	r := rand.New(rand.NewSource(141))
	all := keys()
	for range 20000 {
		all = append(all, drawnKey(r))
	}
	slices.Sort(all)
	all = slices.Compact(all)
	together := 0
	slices.SortFunc(all, func(x, y string) int { return cmp.Or(cmp.Compare(place(x), place(y)), cmp.Compare(x, y)) })
	last := api.Cell{}
	for i, key := range all {
		c, e := object.Pack(api.Object{Key: key, State: states()[2+r.Intn(10)]})
		if e != api.OK || c.Key <= last.Key {
			t.Fatalf("the cell of % x: % x, %v, behind % x", key, c.Key, e, last.Key)
		}
		if i > 0 && place(key) == place(all[i-1]) {
			together++
		}
		last = c
	}
	if together < 1000 {
		t.Errorf("only %d keys stand beside one of their segment", together)
	}
}
