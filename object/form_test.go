package object_test

import (
	"math"
	"math/rand"
	"testing"

	"concord/api"
	"concord/object"
)

// widths are some that may be and some that may not.
var widths = []int{1, 2, 5, 8, 20, 31, 32, 0, -1, 33, 34, 64, 256 + 8, 1 << 32, math.MaxInt, math.MinInt}

// wantForms holds what is hashed of an object against the oracle.
func wantForms(t *testing.T, o api.Object, widths []int) {
	t.Helper()
	want, wantE := wantForm(o)
	if got, e := object.Form(o); got != want || e != wantE {
		t.Errorf("Form of %q: % x, %v, want % x, %v", o.Key, got, e, want, wantE)
	}
	for _, width := range widths {
		want, wantE := wantSum(o, width)
		if got, e := object.Sum(o, width); got != want || e != wantE {
			t.Errorf("Sum of %q, %d: % x, %v, want % x, %v", o.Key, width, got, e, want, wantE)
		}
		entry, wantE := wantEntry(o, width)
		if got, e := object.Entry(o, width); got != entry || e != wantE {
			t.Errorf("Entry of %q, %d: %v, %v, want %v, %v", o.Key, width, got, e, entry, wantE)
		}
	}
}

// P13.2: of objects at their edges.
func TestForms(t *testing.T) {
	for _, o := range objects() {
		wantForms(t, o, widths)
	}
	every := make([]int, 80)
	for i := range every {
		every[i] = i - 20
	}
	wantForms(t, of("k", "1:1; 1:1=x"), every)
	wantForms(t, of("k", ""), every)
}

// P13.2: what is wrong with an object is told ahead of a wrong width, and that ahead of ErrState of an absent one.
func TestFormsWrong(t *testing.T) {
	for want, all := range none() {
		for _, o := range all {
			if f, e := object.Form(o); f != "" || e != want {
				t.Errorf("Form: %d bytes, %v, want %v", len(f), e, want)
			}
			for _, width := range widths {
				if s, e := object.Sum(o, width); s != "" || e != want {
					t.Errorf("Sum: % x, %v, want %v", s, e, want)
				}
				if x, e := object.Entry(o, width); x != (api.Entry{}) || e != want {
					t.Errorf("Entry: %v, %v, want %v", x, e, want)
				}
			}
		}
	}
	for width, want := range map[int]api.Errno{0: api.ErrArg, 33: api.ErrArg, -1: api.ErrArg, 1: api.ErrState, 32: api.ErrState} {
		if x, e := object.Entry(of("k", ""), width); x != (api.Entry{}) || e != want {
			t.Errorf("Entry of an absent one with %d: %v, %v, want %v", width, x, e, want)
		}
	}
}

// P13.2: an object that holds nothing any more, or is gone, is not absent: it has a form and a sum.
func TestFormOfWhatIsGone(t *testing.T) {
	for _, o := range []api.Object{of("k", "1:1;"), of("k", "1:1; 1:1-")} {
		f, e := object.Form(o)
		if f == "" || e != api.OK {
			t.Errorf("Form(%v): % x, %v", o, f, e)
		}
		if x, e := object.Entry(o, 8); len(x.Sum) != 8 || x.Key != "k" || e != api.OK {
			t.Errorf("Entry(%v): %v, %v", o, x, e)
		}
	}
}

// P13.2: drawn objects and widths.
func TestDrawnForms(t *testing.T) {
	r := rand.New(rand.NewSource(133))
	met := map[api.Errno]int{}
	for range 8000 {
		o, width := drawn(r), r.Intn(38)-2
		_, e := wantEntry(o, width)
		met[e]++
		wantForms(t, o, []int{width})
		if t.Failed() {
			t.FailNow()
		}
	}
	for _, e := range []api.Errno{api.OK, api.ErrKey, api.ErrState, api.ErrBig, api.ErrArg} {
		if met[e] < 100 {
			t.Errorf("only %d with %v", met[e], e)
		}
	}
}

// P13.2: sums of one object are beginnings of one another.
func TestSumsOfAllWidths(t *testing.T) {
	o := of("k", "1:2 3:1; 1:1=x 1:2- 3:1=y")
	full, _ := object.Sum(o, 32)
	for width := 1; width <= 32; width++ {
		if s, e := object.Sum(o, width); s != full[:width] || e != api.OK {
			t.Errorf("Sum with %d: % x, %v", width, s, e)
		}
	}
}
