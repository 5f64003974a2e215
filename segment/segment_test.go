package segment_test

import (
	"math/rand"
	"testing"

	"concord/api"
	"concord/object"
	"concord/segment"
)

// P14.1: keys at their edges, texts that are none, and drawn keys; all of the 4096 are met, and no other number.
func TestOf(t *testing.T) {
	for _, key := range append(keys(), noKeys()...) {
		if n := segment.Of(key); n != wantOf(key) {
			t.Errorf("Of a key of %d bytes: %d, want %d", len(key), n, wantOf(key))
		}
	}
	r := rand.New(rand.NewSource(141))
	met := map[int]bool{}
	for range 60000 {
		b := make([]byte, r.Intn(36))
		r.Read(b)
		n := segment.Of(string(b))
		if n != wantOf(string(b)) {
			t.Fatalf("Of(% x): %d", b, n)
		}
		met[n] = true
	}
	if len(met) != api.Segments+1 || !met[-1] || !met[0] || !met[api.Segments-1] {
		t.Errorf("%d segments were met", len(met))
	}
}

// P14.1: every segment's two bytes; numbers that are no segment's have none.
func TestPrefix(t *testing.T) {
	for n := range api.Segments {
		if p, e := segment.Prefix(n); p != string([]byte{byte(n / 256), byte(n % 256)}) || e != api.OK {
			t.Errorf("Prefix(%d): % x, %v", n, p, e)
		}
	}
	for _, n := range noSegments() {
		if p, e := segment.Prefix(n); p != "" || e != api.ErrArg {
			t.Errorf("Prefix(%d): % x, %v", n, p, e)
		}
	}
}

// P14.1: an object's cell has a key that begins with its segment's bytes.
func TestPrefixOfCells(t *testing.T) {
	dot := api.Dot{Actor: 1, Count: 1}
	for _, key := range keys() {
		c, e := object.Pack(api.Object{Key: key, State: api.State{Seen: []api.Dot{dot}}})
		p, f := segment.Prefix(segment.Of(key))
		if e != api.OK || f != api.OK || c.Key != p+key {
			t.Errorf("%q: the cell's key % x, the bytes % x, %v, %v", key, c.Key, p, e, f)
		}
	}
}

// wantValidAs holds Valid against the oracle, with all widths and more.
func wantValidAs(t *testing.T, l []api.Entry) {
	t.Helper()
	for width := -1; width < 35; width++ {
		if segment.Valid(l, width) != wantValid(l, width) {
			t.Errorf("Valid of %d entries with %d is not %v", len(l), width, wantValid(l, width))
		}
	}
	for _, width := range noWidths() {
		if segment.Valid(l, width) {
			t.Errorf("Valid of %d entries with %d", len(l), width)
		}
	}
}

// P14.2: lists at their edges are of one width each, no entries of every one.
func TestValid(t *testing.T) {
	for _, l := range lists() {
		wantValidAs(t, l)
		for width := 1; width <= 32; width++ {
			want := len(l) == 0 || len(l[0].Sum) == width
			if segment.Valid(l, width) != want {
				t.Errorf("Valid(%v, %d) is not %v", l, width, want)
			}
		}
	}
	if !segment.Valid(many(60000, 2), 2) {
		t.Error("Valid of 60000 entries")
	}
}

// P14.2: what is a list of no width.
func TestValidOfNone(t *testing.T) {
	for i, l := range noLists() {
		for width := -1; width < 35; width++ {
			if segment.Valid(l, width) {
				t.Errorf("Valid of the %d. with %d", i, width)
			}
		}
	}
	for i := range 65 {
		for _, wrong := range []api.Entry{{Key: "", Sum: "x"}, {Key: "0000", Sum: "x"}, {Key: many(65, 1)[i].Key, Sum: "xx"}, {Key: many(65, 1)[i].Key}} {
			l := many(65, 1)
			l[i] = wrong
			if segment.Valid(l, 1) != (i == 0 && wrong.Key == "0000" && wrong.Sum == "x") {
				t.Errorf("Valid of 65 entries whose %d. is %v", i, wrong)
			}
		}
	}
}

// P14.2: drawn entries.
func TestDrawnValid(t *testing.T) {
	r := rand.New(rand.NewSource(142))
	met := map[bool]int{}
	for range 5000 {
		l := drawn(r, 1+r.Intn(32), 12)
		met[wantAList(l)]++
		wantValidAs(t, l)
		if t.Failed() {
			t.FailNow()
		}
	}
	if met[true] < 1000 || met[false] < 500 {
		t.Errorf("met %v", met)
	}
}

// P14.2: Home asks each key, the last one too, and neither order nor sums; of a text that is no key the segment is -1.
func TestHome(t *testing.T) {
	for _, n := range append(segments(), noSegments()...) {
		if !segment.Home(n, nil) || !segment.Home(n, []api.Entry{}) {
			t.Errorf("Home(%d, none) is not true", n)
		}
	}
	for _, c := range []struct {
		n    int
		l    []api.Entry
		want bool
	}{
		{2005, list("a:x a:"), true},
		{2005, list("b:y a:x"), false},
		{2637, list("b:y a:x"), false},
		{2637, list("b:y"), true},
		{2637, list("b:y b:y b:y"), true},
		{2637, list("b:y b:y b:y a:x"), false},
		{2005 + 4096, list("a:x"), false},
		{2005 - 4096, list("a:x"), false},
		{-1, list("a:x"), false},
		{-1, make([]api.Entry, 3), true},
		{0, make([]api.Entry, 3), false},
		{-1, append(make([]api.Entry, 3), list("a:x")...), false},
	} {
		if segment.Home(c.n, c.l) != c.want {
			t.Errorf("Home(%d, %v) is not %v", c.n, c.l, c.want)
		}
	}
}

// P14.2: lists of the drawn keys of each segment are at home there alone.
func TestHomeOfEverySegment(t *testing.T) {
	dealt := make([][]api.Entry, api.Segments)
	for _, x := range many(40000, 1) {
		n := wantOf(x.Key)
		dealt[n] = append(dealt[n], x)
	}
	for n, l := range dealt {
		next := (n + 1) % api.Segments
		if !segment.Home(n, l) {
			t.Errorf("%d: not at home", n)
		}
		if len(l) == 0 || len(dealt[next]) == 0 {
			continue
		}
		if segment.Home(next, l) || segment.Home(n, append(l[:len(l):len(l)], dealt[next][0])) {
			t.Errorf("%d: at home elsewhere", n)
		}
	}
}
