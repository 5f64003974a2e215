package object_test

import (
	"math/rand"
	"slices"
	"strings"
	"testing"

	"concord/api"
	"concord/object"
)

// P13.1: keys of every length about the bounds, of any bytes.
func TestKey(t *testing.T) {
	for n := range 70 {
		for _, b := range []string{"k", "\x00", "\xff", "\x80"} {
			want := api.OK
			if n < 1 || n > 32 {
				want = api.ErrKey
			}
			if e := object.Key(strings.Repeat(b, n)); e != want {
				t.Errorf("Key of %d times %q: %v", n, b, e)
			}
		}
	}
	for b := range 256 {
		if e := object.Key(string([]byte{byte(b)})); e != api.OK {
			t.Errorf("Key of the byte %x: %v", b, e)
		}
	}
	for _, key := range noKeys() {
		if e := object.Key(key); e != api.ErrKey {
			t.Errorf("Key of %d bytes: %v", len(key), e)
		}
	}
}

// P13.1: segments of keys at their edges and of drawn ones; all of the 4096 are met.
func TestPlace(t *testing.T) {
	for _, key := range keys() {
		if n, e := object.Place(key); n != place(key) || e != api.OK {
			t.Errorf("Place(%q): %d, %v, want %d", key, n, e, place(key))
		}
	}
	for _, key := range noKeys() {
		if n, e := object.Place(key); n != 0 || e != api.ErrKey {
			t.Errorf("Place of %d bytes: %d, %v", len(key), n, e)
		}
	}
	r := rand.New(rand.NewSource(131))
	met := map[int]bool{}
	for range 50000 {
		b := make([]byte, 1+r.Intn(32))
		r.Read(b)
		n, e := object.Place(string(b))
		if n != place(string(b)) || e != api.OK {
			t.Fatalf("Place(% x): %d, %v", b, n, e)
		}
		met[n] = true
	}
	if len(met) != api.Segments || !met[0] || !met[api.Segments-1] {
		t.Errorf("%d segments were met", len(met))
	}
}

// P13.1: nothing is wrong with objects at their edges.
func TestCheck(t *testing.T) {
	for _, o := range objects() {
		if e := object.Check(o); e != api.OK {
			t.Errorf("Check(%v): %v", o, e)
		}
	}
}

// P13.1: what is wrong with an object, the first of several.
func TestCheckWrong(t *testing.T) {
	for want, all := range none() {
		for i, o := range all {
			if e := object.Check(o); e != want {
				t.Errorf("Check of the %d. object: %v, want %v", i, e, want)
			}
		}
	}
}

// P13.1: of 280 bytes a state may be, of 281 not, however they come about.
func TestCheckHowGreat(t *testing.T) {
	for n := 12; n < 400; n++ {
		want := api.OK
		if n > 280 {
			want = api.ErrBig
		}
		for _, key := range []string{"k", strings.Repeat("k", 32)} {
			if e := object.Check(api.Object{Key: key, State: sized(n, 5)}); e != want {
				t.Errorf("Check of a state of %d bytes: %v", n, e)
			}
		}
	}
	for n := range 65 {
		for _, count := range []uint64{1, 300, end} {
			o := api.Object{Key: "k", State: api.State{Seen: many(n, 3, count)}}
			if e := object.Check(o); e != wrong(o) {
				t.Errorf("Check of %d dots: %v", n, e)
			}
		}
		o := api.Object{Key: "k", State: row(n, 3, "xyz")}
		if e := object.Check(o); e != wrong(o) {
			t.Errorf("Check of %d siblings: %v", n, e)
		}
	}
}

// P13.1: drawn objects.
func TestDrawnChecks(t *testing.T) {
	r := rand.New(rand.NewSource(132))
	met := map[api.Errno]int{}
	for range 20000 {
		o := drawn(r)
		met[wrong(o)]++
		if e := object.Check(o); e != wrong(o) {
			t.Fatalf("Check(%v): %v, want %v", o, e, wrong(o))
		}
	}
	for _, e := range []api.Errno{api.OK, api.ErrKey, api.ErrState, api.ErrBig} {
		if met[e] < 100 {
			t.Errorf("only %d with %v", met[e], e)
		}
	}
}

// P13.1: two objects are the same just if key and state are, whether they may be or not; nil and empty lists are the same.
func TestSame(t *testing.T) {
	all := objects()
	for _, l := range none() {
		all = append(all, l...)
	}
	for _, a := range all {
		if !object.Same(a, a) || !object.Same(a, clone(a)) || !object.Same(roomy(a), a) {
			t.Errorf("%q is not the same as itself", a.Key)
		}
	}
	few := slices.DeleteFunc(all, func(o api.Object) bool { return len(o.State.Seen) > 100 || len(o.Key) > 100 })
	for _, a := range few {
		for _, b := range few {
			if object.Same(a, b) != same(a, b) {
				t.Errorf("Same(%v, %v) is %v", a, b, !same(a, b))
			}
		}
	}
}

// P13.1: what is unlike in one field alone is not the same.
func TestNotSame(t *testing.T) {
	a := of("k", "1:2 3:1; 1:1=x 1:2- 3:1=y")
	for what, b := range map[string]api.Object{
		"the key":            of("l", "1:2 3:1; 1:1=x 1:2- 3:1=y"),
		"a longer key":       of("k\x00", "1:2 3:1; 1:1=x 1:2- 3:1=y"),
		"no key":             of("", "1:2 3:1; 1:1=x 1:2- 3:1=y"),
		"a count":            of("k", "1:3 3:1; 1:1=x 1:2- 3:1=y"),
		"an actor":           of("k", "1:2 4:1; 1:1=x 1:2- 3:1=y"),
		"a dot more":         of("k", "1:2 3:1 4:1; 1:1=x 1:2- 3:1=y"),
		"a dot less":         of("k", "1:2; 1:1=x 1:2- 3:1=y"),
		"a value":            of("k", "1:2 3:1; 1:1=x 1:2- 3:1=z"),
		"gone or not":        of("k", "1:2 3:1; 1:1=x 1:2= 3:1=y"),
		"a sibling's dot":    of("k", "1:2 3:1; 1:1=x 1:3- 3:1=y"),
		"a sibling less":     of("k", "1:2 3:1; 1:1=x 1:2-"),
		"no siblings":        of("k", "1:2 3:1;"),
		"the siblings' turn": of("k", "1:2 3:1; 1:1=x 3:1=y 1:2-"),
	} {
		if object.Same(a, b) || object.Same(b, a) {
			t.Errorf("unlike: %s: the same", what)
		}
	}
}
