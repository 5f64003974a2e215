package object_test

import (
	"math/rand"
	"slices"
	"strings"
	"testing"

	"concord/api"
	"concord/object"
)

// wantPutAs holds what Put answers against the oracle.
func wantPutAs(t *testing.T, o api.Object, ctx []api.Dot, actor uint32, value string, gone bool) {
	t.Helper()
	after, d, e := wantPut(o, ctx, actor, value, gone)
	got, g, f := object.Put(o, ctx, actor, value, gone)
	if !same(got, after) || g != d || f != e {
		t.Errorf("Put(%v, %v, %d, %q, %v) is %v, %v, %v, want %v, %v, %v", o, ctx, actor, value, gone, got, g, f, after, d, e)
	}
}

// contexts are some that a client may have of an object: none, all, less, what others have seen, and what is none.
func contexts(o api.Object) [][]api.Dot {
	less := slices.Clone(o.State.Seen)
	for i := range less {
		less[i].Count = max(less[i].Count-1, 1)
	}
	return [][]api.Dot{nil, {}, o.State.Seen, less, dots("1:1"), dots("0:3 2:2 77:1"), dots("1:1099511627776"), many(64, 1, 1), dots("1:0"), dots("2:1 1:1"), many(65, 1, 1)}
}

// P13.3: puts upon objects at their edges.
func TestPutUponObjects(t *testing.T) {
	for _, o := range objects() {
		for _, ctx := range contexts(o) {
			for _, actor := range []uint32{0, 1, 5, 7, 1000, lastActor} {
				wantPutAs(t, o, ctx, actor, "v", false)
				wantPutAs(t, o, ctx, actor, "", true)
				wantPutAs(t, o, ctx, actor, "v", true)
				wantPutAs(t, o, ctx, actor, strings.Repeat("v", 40), false)
				wantPutAs(t, o, ctx, actor, strings.Repeat("v", 41), false)
			}
		}
	}
}

// P13.3: what is wrong with the object is told ahead of all that is wrong with the rest.
func TestPutWrong(t *testing.T) {
	for want, all := range none() {
		for _, o := range all {
			for _, ctx := range [][]api.Dot{nil, dots("1:0"), dots("1:1099511627776")} {
				for _, value := range []string{"x", strings.Repeat("v", 41)} {
					if after, d, e := object.Put(o, ctx, 1, value, false); !isZero(after) || d != (api.Dot{}) || e != want {
						t.Errorf("Put: %v, %v, want %v", d, e, want)
					}
				}
			}
		}
	}
}

// P13.3: of several errors of the put the first of ErrVector, ErrValue, ErrEnd, ErrBig.
func TestPutFirstError(t *testing.T) {
	long := strings.Repeat("v", 41)
	full := api.Object{Key: "k", State: sized(280, 2)}
	ended := api.Object{Key: "k", State: api.State{Seen: append(dots("1:1099511627776"), many(38, 2, end)...)}}
	for _, c := range []struct {
		o     api.Object
		ctx   []api.Dot
		value string
		gone  bool
		want  api.Errno
	}{
		{ended, dots("1:0"), long, false, api.ErrVector},
		{ended, many(65, 1, 1), "x", true, api.ErrVector},
		{ended, dots("99:1099511627776"), long, false, api.ErrValue},
		{ended, dots("99:1099511627776"), "x", true, api.ErrValue},
		{ended, dots("99:1099511627776"), "x", false, api.ErrEnd},
		{full, dots("1:1099511627776"), "", false, api.ErrEnd},
		{full, dots("1:1099511627775"), "", false, api.ErrBig},
		{full, nil, "", true, api.ErrBig},
		{full, many(64, 3, 1), "", false, api.ErrBig},
		{of("k", ""), many(64, 3, 1), "", false, api.ErrBig},
		{of("k", ""), many(63, 3, end), "", false, api.ErrBig},
	} {
		if o, d, e := object.Put(c.o, c.ctx, 1, c.value, c.gone); !isZero(o) || d != (api.Dot{}) || e != c.want {
			t.Errorf("Put(%v, %v, %q, %v): %v, %v, %v, want %v", c.o, c.ctx, c.value, c.gone, o, d, e, c.want)
		}
	}
}

// P13.3: behind a put the state may have 280 bytes, and not 281; what the put replaces does not count.
func TestPutAboutTheBound(t *testing.T) {
	for n := 225; n <= 280; n++ {
		o := api.Object{Key: strings.Repeat("k", 32), State: sized(n, 1)}
		for long := range 41 {
			value := strings.Repeat("w", long)
			fits := n+4+long <= 280
			after, d, e := object.Put(o, nil, 1, value, false)
			if fits && (e != api.OK || d != dots("1:65")[0] || len(after.State.Siblings) != len(o.State.Siblings)+1) {
				t.Errorf("%d bytes and a value of %d: %v, %v, %v", n, long, after, d, e)
			}
			if !fits && (e != api.ErrBig || d != (api.Dot{}) || !isZero(after)) {
				t.Errorf("%d bytes and a value of %d: %v, %v, %v", n, long, after, d, e)
			}
			wantPutAs(t, o, nil, 1, value, false)
			wantPutAs(t, o, nil, 2, value, false)
			wantPutAs(t, o, dots("1:1"), 1, value, false)
			wantPutAs(t, o, dots("1:64"), 1, value, false)
		}
	}
}

// P13.3: drawn puts, of which some are wrong.
func TestDrawnPuts(t *testing.T) {
	r := rand.New(rand.NewSource(134))
	met := map[api.Errno]int{}
	for range 40000 {
		o, ctx := drawn(r), drawn(r).State.Seen
		switch r.Intn(6) {
		case 0, 1:
			ctx = o.State.Seen
		case 2:
			ctx = []api.Dot{{Actor: uint32(r.Intn(4)), Count: uint64(r.Intn(3))}}
		}
		x := drawnSibling(r, api.Dot{}, 43)
		actor := uint32(r.Intn(6))
		_, _, e := wantPut(o, ctx, actor, x.Value, x.Gone)
		met[e]++
		wantPutAs(t, o, ctx, actor, x.Value, x.Gone)
		if t.Failed() {
			t.FailNow()
		}
	}
	for _, e := range []api.Errno{api.OK, api.ErrKey, api.ErrState, api.ErrVector, api.ErrValue, api.ErrEnd, api.ErrBig} {
		if met[e] < 100 {
			t.Errorf("only %d with %v", met[e], e)
		}
	}
}

// R3: what Put answers is new memory, and what is handed in stays as it was.
func TestPutAnew(t *testing.T) {
	for _, o := range objects() {
		for _, ctx := range contexts(o) {
			on := roomy(o)
			with := roomy(api.Object{State: api.State{Seen: ctx}})
			was, wasCtx := clone(whole(on)), clone(whole(with))
			first, _, e := object.Put(on, with.State.Seen, 7, "v", false)
			second, _, _ := object.Put(on, with.State.Seen, 7, "v", false)
			want := clone(second)
			scribble(first)
			if !same(whole(on), was) || !same(whole(with), wasCtx) {
				t.Errorf("%v: the new object is memory of an argument", o)
			}
			third, _, f := object.Put(on, with.State.Seen, 7, "v", false)
			if e != f || !same(second, want) || !same(third, want) {
				t.Errorf("%v: two answers share memory", o)
			}
		}
	}
}
