package segment_test

import (
	"math/rand"
	"testing"

	"concord/api"
	"concord/segment"
)

// wantFormAs holds Form and, for widths about that of the entries, Sum against the oracle.
func wantFormAs(t *testing.T, n int, l []api.Entry) {
	t.Helper()
	want, wantE := wantForm(n, l)
	if f, e := segment.Form(n, l); f != want || e != wantE {
		t.Errorf("Form(%d) of %d entries is % x, %v, want % x, %v", n, len(l), f, e, want, wantE)
	}
	widths := []int{0, 1, 8, 32, 33}
	if len(l) > 0 {
		w := len(l[0].Sum)
		widths = append(widths, w-1, w, w+1)
	}
	for _, width := range widths {
		want, wantE := wantSum(n, l, width)
		if s, e := segment.Sum(n, l, width); s != want || e != wantE {
			t.Errorf("Sum(%d) of %d entries with %d is % x, %v, want % x, %v", n, len(l), width, s, e, want, wantE)
		}
	}
}

// P14.3: lists at their edges, with segments at theirs.
func TestForm(t *testing.T) {
	for _, l := range lists() {
		for _, n := range segments() {
			wantFormAs(t, n, l)
			if f, e := segment.Form(n, l); f == "" || e != api.OK {
				t.Errorf("Form(%d, %v): % x, %v", n, l, f, e)
			}
		}
	}
	for n := range api.Segments {
		wantFormAs(t, n, list("a:x b:y"))
	}
}

// P14.3: some forms, told byte by byte; how many entries there are may take more than one byte.
func TestFormsByHand(t *testing.T) {
	for _, c := range []struct {
		n    int
		l    []api.Entry
		want string
	}{
		{0, nil, "S\x00\x00\x00"},
		{4095, nil, "S\x0f\xff\x00"},
		{2005, list("a:x b:y"), "S\x07\xd5\x02\x01a\x01x\x01b\x01y"},
		{256, list("ab:xyz"), "S\x01\x00\x01\x02ab\x03xyz"},
	} {
		if f, e := segment.Form(c.n, c.l); f != c.want || e != api.OK {
			t.Errorf("Form(%d, %v): % x, %v", c.n, c.l, f, e)
		}
	}
	for n, head := range map[int]string{127: "S\x00\x07\x7f\x04", 128: "S\x00\x07\x80\x01\x04", 300: "S\x00\x07\xac\x02\x04"} {
		f, e := segment.Form(7, many(n, 1))
		if len(f) != len(head)-1+7*n || f[:len(head)] != head || e != api.OK {
			t.Errorf("Form of %d entries: %d bytes, % x, %v", n, len(f), f[:len(head)], e)
		}
	}
}

// P14.3: of no entries there is a form, and the sum is the empty text, whatever segment and width.
func TestSumOfNone(t *testing.T) {
	for _, n := range segments() {
		for width := 1; width <= 32; width++ {
			for _, l := range [][]api.Entry{nil, {}, roomy(nil)} {
				if s, e := segment.Sum(n, l, width); s != "" || e != api.OK {
					t.Errorf("Sum(%d, none, %d): % x, %v", n, width, s, e)
				}
			}
		}
	}
}

// P14.3: a sum has as many bytes as its entries' sums, all widths.
func TestSum(t *testing.T) {
	for width := 1; width <= 32; width++ {
		for _, n := range []int{1, 2, 64, 200} {
			l := many(n, width)
			want, _ := wantSum(n, l, width)
			if s, e := segment.Sum(n, l, width); s != want || len(s) != width || e != api.OK {
				t.Errorf("Sum of %d entries of %d: % x, %v", n, width, s, e)
			}
		}
	}
}

// P14.3: no segment, then no width, then no list, each ahead of the next.
func TestFormErrors(t *testing.T) {
	for _, l := range append(noLists(), nil, list("a:x")) {
		for _, n := range noSegments() {
			if f, e := segment.Form(n, l); f != "" || e != api.ErrArg {
				t.Errorf("Form(%d): % x, %v", n, f, e)
			}
			for _, width := range append(noWidths(), 1, 8, 32) {
				if s, e := segment.Sum(n, l, width); s != "" || e != api.ErrArg {
					t.Errorf("Sum(%d) with %d: % x, %v", n, width, s, e)
				}
			}
		}
		for _, width := range noWidths() {
			if s, e := segment.Sum(5, l, width); s != "" || e != api.ErrArg {
				t.Errorf("Sum with %d: % x, %v", width, s, e)
			}
		}
	}
	for i, l := range noLists() {
		for _, n := range segments() {
			if f, e := segment.Form(n, l); f != "" || e != api.ErrEntry {
				t.Errorf("Form(%d) of the %d.: % x, %v", n, i, f, e)
			}
		}
		for width := 1; width <= 32; width++ {
			if s, e := segment.Sum(5, l, width); s != "" || e != api.ErrEntry {
				t.Errorf("Sum of the %d. with %d: % x, %v", i, width, s, e)
			}
		}
	}
	for width := 1; width <= 32; width++ {
		for w := 1; w <= 32; w++ {
			if s, e := segment.Sum(5, many(3, w), width); (e != api.OK) != (w != width) || e != api.OK && (s != "" || e != api.ErrEntry) {
				t.Errorf("Sum of a list of %d with %d: % x, %v", w, width, s, e)
			}
		}
	}
}

// P14.3: drawn entries, of which not all are a list.
func TestDrawnForms(t *testing.T) {
	r := rand.New(rand.NewSource(143))
	for range 4000 {
		wantFormAs(t, r.Intn(4200)-50, drawn(r, 1+r.Intn(32), 12))
		if t.Failed() {
			t.FailNow()
		}
	}
}
