package object_test

import (
	"math/rand"
	"strings"
	"testing"

	"concord/api"
	"concord/object"
)

// wantMergeAs holds what Merge answers against the oracle.
func wantMergeAs(t *testing.T, a, b api.Object) {
	t.Helper()
	want, wantE := wantMerge(a, b)
	if got, e := object.Merge(a, b); !same(got, want) || e != wantE {
		t.Errorf("Merge(%v, %v) is %v, %v, want %v, %v", a, b, got, e, want, wantE)
	}
}

// P13.4: objects at their edges, each with each.
func TestMergeOfObjects(t *testing.T) {
	for _, a := range objects() {
		for _, b := range objects() {
			wantMergeAs(t, a, b)
		}
	}
}

// P13.4: some merges, told one by one.
func TestMerge(t *testing.T) {
	for _, c := range []struct{ a, b, want string }{
		{"", "", ""},
		{"", "1:1; 1:1=x", "1:1; 1:1=x"},
		{"1:1; 1:1=x", "", "1:1; 1:1=x"},
		{"1:1; 1:1=x", "1:1; 1:1=x", "1:1; 1:1=x"},
		{"1:2; 1:2=y", "1:1; 1:1=x", "1:2; 1:2=y"},
		{"1:1; 1:1=x", "1:1;", "1:1;"},
		{"1:1; 1:1=b", "1:1; 1:1=a", "1:1; 1:1=a"},
		{"1:1; 1:1=b", "1:1; 1:1-", "1:1; 1:1-"},
		{"1:2 2:1; 1:2=y 2:1=z", "1:1 3:1; 1:1=x 3:1=w", "1:2 2:1 3:1; 1:2=y 2:1=z 3:1=w"},
	} {
		if o, e := object.Merge(of("k", c.a), of("k", c.b)); !same(o, of("k", c.want)) || e != api.OK {
			t.Errorf("Merge(%s, %s): %v, %v, want %s", c.a, c.b, o, e, c.want)
		}
	}
}

// P13.4: what is wrong with the first, then with the second, then unlike keys.
func TestMergeWrong(t *testing.T) {
	right := of("k", "1:1; 1:1=x")
	other := of("l", "1:1; 1:1=x")
	wrong := none()
	for want, all := range wrong {
		for _, o := range all {
			for _, r := range []api.Object{right, other} {
				if m, e := object.Merge(o, r); !isZero(m) || e != want {
					t.Errorf("Merge with a wrong first: %v, want %v", e, want)
				}
				if m, e := object.Merge(r, o); !isZero(m) || e != want {
					t.Errorf("Merge with a wrong second: %v, want %v", e, want)
				}
			}
			for _, others := range wrong {
				if m, e := object.Merge(o, others[0]); !isZero(m) || e != want {
					t.Errorf("Merge of two wrong ones: %v, want %v", e, want)
				}
			}
		}
	}
	for _, b := range []string{"l", "kk", "k\x00", "K", strings.Repeat("k", 32)} {
		for _, text := range []string{"1:1; 1:1=x", ""} {
			if m, e := object.Merge(right, of(b, text)); !isZero(m) || e != api.ErrArg {
				t.Errorf("Merge with the key %q: %v, %v", b, m, e)
			}
		}
	}
}

// P13.4: unlike keys are told ahead of a join that is too great, whoever refuses that.
func TestMergeFirstError(t *testing.T) {
	for _, c := range [][2]api.State{
		{sized(200, 1), sized(200, 2)},
		{{Seen: many(64, 0, 1)}, {Seen: many(1, 64, 1)}},
		{row(60, 1, ""), row(60, 2, "")},
	} {
		a, b := api.Object{Key: "k", State: c[0]}, api.Object{Key: "k", State: c[1]}
		if m, e := object.Merge(a, b); !isZero(m) || e != api.ErrBig {
			t.Errorf("Merge: %v, %v", m, e)
		}
		b.Key = "l"
		if m, e := object.Merge(a, b); !isZero(m) || e != api.ErrArg {
			t.Errorf("Merge of unlike keys: %v, %v", m, e)
		}
	}
}

// P13.4: a join may have 280 bytes, and not 281.
func TestMergeAboutTheBound(t *testing.T) {
	for n := 140; n <= 150; n++ {
		for m := 128; m <= 150; m++ {
			a, b := api.Object{Key: "k", State: sized(n, 1)}, api.Object{Key: "k", State: sized(m, 2)}
			fits := n+m-2 <= 280 // the two lists' lengths are told once
			o, e := object.Merge(a, b)
			if fits && (e != api.OK || len(list(o.State)) != n+m-2) || !fits && (e != api.ErrBig || !isZero(o)) {
				t.Errorf("Merge of %d and %d bytes: %v, %v", n, m, o, e)
			}
			wantMergeAs(t, a, b)
			wantMergeAs(t, b, a)
		}
	}
}

// P13.4: drawn objects.
func TestDrawnMerges(t *testing.T) {
	r := rand.New(rand.NewSource(135))
	met := map[api.Errno]int{}
	for range 40000 {
		a, b := drawn(r), drawn(r)
		if r.Intn(3) > 0 {
			b.Key = a.Key
		}
		_, e := wantMerge(a, b)
		met[e]++
		wantMergeAs(t, a, b)
		if t.Failed() {
			t.FailNow()
		}
	}
	for _, e := range []api.Errno{api.OK, api.ErrKey, api.ErrState, api.ErrArg, api.ErrBig} {
		if met[e] < 100 {
			t.Errorf("only %d with %v", met[e], e)
		}
	}
}

// R3: what Merge answers is new memory, and what is handed in stays as it was.
func TestMergeAnew(t *testing.T) {
	for _, x := range states() {
		for _, y := range states() {
			a, b := roomy(api.Object{Key: "k", State: x}), roomy(api.Object{Key: "k", State: y})
			wasA, wasB := clone(whole(a)), clone(whole(b))
			first, e := object.Merge(a, b)
			second, _ := object.Merge(a, b)
			want := clone(second)
			scribble(first)
			if !same(whole(a), wasA) || !same(whole(b), wasB) {
				t.Errorf("%v, %v: what is merged is memory of an argument", x, y)
			}
			third, f := object.Merge(a, b)
			if e != f || !same(second, want) || !same(third, want) {
				t.Errorf("%v, %v: two answers share memory", x, y)
			}
		}
	}
}
