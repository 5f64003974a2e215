package segment_test

import (
	"math/rand"
	"slices"
	"strings"
	"testing"

	"concord/api"
	"concord/segment"
)

// wantPutAs holds Put against the oracle, and wantTakeAs Take.
func wantPutAs(t *testing.T, l []api.Entry, x api.Entry) {
	t.Helper()
	want, wantE := wantPut(l, x)
	if got, e := segment.Put(l, x); !slices.Equal(got, want) || e != wantE {
		t.Errorf("Put(%v, %v) is %v, %v, want %v, %v", l, x, got, e, want, wantE)
	}
}

func wantTakeAs(t *testing.T, l []api.Entry, key string) {
	t.Helper()
	want, wantOK := wantTake(l, key)
	if got, ok := segment.Take(l, key); !slices.Equal(got, want) || ok != wantOK {
		t.Errorf("Take(%v, %q) is %v, %v, want %v, %v", l, key, got, ok, want, wantOK)
	}
}

// P14.5: all small lists, with keys that are there, and below, between and above them.
func TestPutAndTakeOfSmall(t *testing.T) {
	for _, l := range append(small("x", "y"), small("xx")...) {
		for _, key := range []string{"\x00", "Z", "a", "a\x00", "ab", "ac", "b", "b\x00", "c", "\xff"} {
			for _, sum := range []string{"x", "y", "z", "xx", "", strings.Repeat("x", 33)} {
				wantPutAs(t, l, api.Entry{Key: key, Sum: sum})
			}
			wantTakeAs(t, l, key)
		}
	}
}

// P14.5: lists at their edges, each with keys at theirs.
func TestPutAndTakeOfLists(t *testing.T) {
	for _, l := range lists() {
		for _, key := range append(keys(), noKeys()...) {
			for _, width := range []int{0, 1, 2, 8, 32, 33} {
				wantPutAs(t, l, api.Entry{Key: key, Sum: strings.Repeat("s", width)})
			}
			wantTakeAs(t, l, key)
		}
		for _, x := range l {
			wantPutAs(t, l, x)
			wantTakeAs(t, l, x.Key)
		}
	}
}

// P14.5: into a list without entries a key may be put with a sum of every width, and none else.
func TestPutIntoNone(t *testing.T) {
	for width := range 70 {
		x := api.Entry{Key: "k", Sum: strings.Repeat("s", width)}
		l, e := segment.Put(nil, x)
		fits := width >= 1 && width <= 32
		if fits && (!slices.Equal(l, []api.Entry{x}) || e != api.OK) || !fits && (len(l) != 0 || e != api.ErrEntry) {
			t.Errorf("Put of a sum of %d bytes: %v, %v", width, l, e)
		}
	}
}

// P14.5: a key of which the list has an entry of its width alone.
func TestPutOfUnlikeWidth(t *testing.T) {
	for width := range 35 {
		for w := 1; w <= 32; w++ {
			l := []api.Entry{{Key: "b", Sum: strings.Repeat("x", w)}}
			for _, key := range []string{"a", "b", "c"} {
				x := api.Entry{Key: key, Sum: strings.Repeat("s", width)}
				got, e := segment.Put(l, x)
				if width != w && (len(got) != 0 || e != api.ErrEntry) || width == w && e != api.OK {
					t.Errorf("Put of %d bytes into a list of %d at %s: %v, %v", width, w, key, got, e)
				}
			}
		}
	}
}

// P14.5: where there is no list nothing is put, and nothing taken, of keys that are there neither.
func TestPutAndTakeErrors(t *testing.T) {
	for i, l := range noLists() {
		for _, x := range []api.Entry{{Key: "a", Sum: "x"}, {Key: "j", Sum: "y"}, {Key: "0005", Sum: "abcd"}, {}, l[0]} {
			if got, e := segment.Put(l, x); len(got) != 0 || e != api.ErrEntry {
				t.Errorf("Put into the %d.: %v, %v", i, got, e)
			}
			if got, ok := segment.Take(l, x.Key); len(got) != 0 || ok {
				t.Errorf("Take from the %d.: %v, %v", i, got, ok)
			}
		}
	}
}

// P14.5: drawn entries, of which not all are lists.
func TestDrawnPutsAndTakes(t *testing.T) {
	r := rand.New(rand.NewSource(145))
	met := map[api.Errno]int{}
	for range 20000 {
		width := 1 + r.Intn(32)
		l := drawn(r, width, 20)
		x := api.Entry{Key: drawnKey(r), Sum: strings.Repeat("s", width-r.Intn(8)/7)}
		_, e := wantPut(l, x)
		met[e]++
		wantPutAs(t, l, x)
		wantTakeAs(t, l, x.Key)
		if t.Failed() {
			t.FailNow()
		}
	}
	if met[api.OK] < 5000 || met[api.ErrEntry] < 2000 {
		t.Errorf("met %v", met)
	}
}

// R3: Put and Take answer new memory, and what is handed in stays as it was, with the room behind its end.
func TestPutAndTakeAnew(t *testing.T) {
	for name, do := range map[string]func(l []api.Entry, key string) ([]api.Entry, bool){
		"Put": func(l []api.Entry, key string) ([]api.Entry, bool) {
			return ok(segment.Put(l, api.Entry{Key: key, Sum: "s"}))
		},
		"Take": segment.Take,
	} {
		for _, from := range append(small("x", "y"), many(100, 1)) {
			for _, key := range []string{"a", "ab", "b", "c", "0000", "0050"} {
				l := roomy(from)
				was := slices.Clone(whole(l))
				first, done := do(l, key)
				second, _ := do(l, key)
				want := slices.Clone(second)
				scribble(first)
				if !slices.Equal(whole(l), was) {
					t.Errorf("%s(%v, %s): the argument was changed", name, from, key)
				}
				third, again := do(l, key)
				if !slices.Equal(second, want) || !slices.Equal(third, want) || done != again {
					t.Errorf("%s(%v, %s): two answers share memory", name, from, key)
				}
			}
		}
	}
}

func ok(l []api.Entry, e api.Errno) ([]api.Entry, bool) { return l, e == api.OK }
