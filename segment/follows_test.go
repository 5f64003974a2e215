package segment_test

import (
	"math/rand"
	"slices"
	"testing"

	"concord/api"
	"concord/segment"
)

type entry = api.Entry

// pairs are two lists each: all small ones with one another, and drawn ones.
func pairs() [][2][]entry {
	var all [][2][]entry
	for _, a := range small("x", "y", "z") {
		for _, b := range small("x", "y", "z") {
			all = append(all, [2][]entry{a, b})
		}
	}
	r := rand.New(rand.NewSource(148))
	for range 5000 {
		width := 1 + r.Intn(32)
		a, b := drawnList(r, width, 30), drawnList(r, width, 30)
		if r.Intn(5) == 0 {
			b = slices.Clone(a)
		}
		all = append(all, [2][]entry{a, b})
	}
	return all
}

// P14.8: Of is from 0 to 4095 for every key.
func TestOfEveryKey(t *testing.T) {
	r := rand.New(rand.NewSource(149))
	for range 30000 {
		if n := segment.Of(drawnKey(r)); n < 0 || n > 4095 {
			t.Fatalf("a segment %d", n)
		}
	}
}

// P14.8: Diff is none just if the lists are the same.
func TestDiffOfTheSame(t *testing.T) {
	met := map[bool]int{}
	for _, p := range pairs() {
		d, e := segment.Diff(p[0], p[1])
		same := slices.Equal(p[0], p[1])
		met[same]++
		if (len(d) == 0) != same || e != api.OK {
			t.Fatalf("Diff(%v, %v): %v, %v", p[0], p[1], d, e)
		}
	}
	if met[true] < 500 || met[false] < 2000 {
		t.Errorf("met %v", met)
	}
}

// P14.8: what Diff tells of b, put and taken in a, makes b, in whatever order it is done.
func TestDiffMakesTheOther(t *testing.T) {
	r := rand.New(rand.NewSource(150))
	for _, p := range pairs() {
		d, _ := segment.Diff(p[0], p[1])
		r.Shuffle(len(d), func(i, j int) { d[i], d[j] = d[j], d[i] })
		l := p[0]
		for _, x := range d {
			done := false
			if x.Right != "" {
				l, done = ok(segment.Put(l, entry{Key: x.Key, Sum: x.Right}))
			} else {
				l, done = segment.Take(l, x.Key)
			}
			if !done {
				t.Fatalf("%v, %v: %v was refused", p[0], p[1], x)
			}
		}
		if !slices.Equal(l, p[1]) {
			t.Fatalf("%v became %v, want %v", p[0], l, p[1])
		}
	}
}

// P14.8: two lists that differ have unlike forms, those of unlike widths too.
func TestFormsOfUnlikeLists(t *testing.T) {
	byForm := map[string][]entry{}
	all := slices.Concat(small("x", "y", "z", "\x01"), small("xx", "\x01x", "x\x01", "\x01\x01"), lists())
	for _, p := range pairs() {
		all = append(all, p[0], p[1])
	}
	for _, l := range all {
		f, e := segment.Form(5, l)
		if other, is := byForm[f]; is && !slices.Equal(other, l) || e != api.OK {
			t.Fatalf("%v and %v have the form % x, %v", other, l, f, e)
		}
		byForm[f] = l
		if other, _ := segment.Form(6, l); other == f {
			t.Fatalf("%v: of two segments one form", l)
		}
	}
	if len(byForm) < 2000 {
		t.Errorf("%d forms", len(byForm))
	}
}

// P14.8: where a key ends and its sum begins is told by the form, though the bytes could be cut otherwise.
func TestKeysWithinForms(t *testing.T) {
	forms := map[string]bool{}
	unlike := [][]entry{
		{{Key: "a", Sum: "\x01a\x01x"}}, {{Key: "a\x01a", Sum: "\x01x"}}, {{Key: "a", Sum: "\x01"}, {Key: "a\x01", Sum: "x"}},
		{{Key: "\x01", Sum: "\x01"}, {Key: "\x01\x01", Sum: "\x01"}}, {{Key: "\x01", Sum: "\x01\x01\x01\x01\x01"}}, {{Key: "\x01\x01\x01", Sum: "\x01\x01\x01"}},
		{{Key: "ab", Sum: "c"}}, {{Key: "a", Sum: "bc"}}, {{Key: "abc", Sum: "\x00"}},
	}
	for _, l := range unlike {
		f, e := segment.Form(5, l)
		if forms[f] || e != api.OK {
			t.Errorf("%q: the form % x is another one's, %v", l, f, e)
		}
		forms[f] = true
	}
}

// P14.8: pieces, one behind the other, are the list; each but the last has 64 entries.
func TestPiecesAreTheList(t *testing.T) {
	all := slices.Concat(lists(), small("x"))
	for n := range 200 {
		all = append(all, many(n, 2))
	}
	all = append(all, many(64*40, 1), many(64*40+1, 1))
	for _, l := range all {
		var got []entry
		from, more := "", true
		for more {
			var p []entry
			p, more = segment.Piece(l, from)
			if more && len(p) != 64 || len(p) == 0 && len(l) > 0 {
				t.Fatalf("of %d entries a piece of %d, %v", len(l), len(p), more)
			}
			if got = append(got, p...); more {
				from = p[len(p)-1].Key + "\x00"
			}
		}
		if !slices.Equal(got, l) {
			t.Errorf("the pieces of %d entries are %d", len(l), len(got))
		}
	}
}

// P14.5: what Put and Take make is a list again, of the same width; there and back is the list.
func TestPutThenTake(t *testing.T) {
	r := rand.New(rand.NewSource(151))
	for range 5000 {
		l := drawnList(r, 3, 20)
		x := entry{Key: drawnKey(r), Sum: "new"}
		put, e := segment.Put(l, x)
		if e != api.OK || !segment.Valid(put, 3) {
			t.Fatalf("Put(%v, %v): %v, %v", l, x, put, e)
		}
		back, done := segment.Take(put, x.Key)
		if !done || !segment.Valid(back, 3) {
			t.Fatalf("Take(%v, %q): %v, %v", put, x.Key, back, done)
		}
		if old, was := sums(l)[x.Key]; was {
			back, _ = segment.Put(back, entry{Key: x.Key, Sum: old})
		}
		if !slices.Equal(back, l) {
			t.Fatalf("%v, there and back: %v", l, back)
		}
	}
}
