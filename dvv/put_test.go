package dvv_test

import (
	"math"
	"math/rand"
	"slices"
	"strings"
	"testing"

	"concord/api"
	"concord/dvv"
)

// wantPutAs holds what Put answers against the oracle.
func wantPutAs(t *testing.T, what string, s api.State, ctx []api.Dot, actor uint32, value string, gone bool) {
	t.Helper()
	after, d, e := wantPut(s, ctx, actor, value, gone)
	got, g, f := dvv.Put(s, ctx, actor, value, gone)
	if !same(got, after) || g != d || f != e {
		t.Errorf("%s: Put(%v, %v, %d, %q, %v) is %v, %v, %v, want %v, %v, %v", what, s, ctx, actor, value, gone, got, g, f, after, d, e)
	}
}

// contexts are some that a client may have of a state: none, all, more, less, and what others have seen.
func contexts(s api.State) [][]api.Dot {
	more := slices.Clone(s.Seen)
	less := slices.Clone(s.Seen)
	for i := range more {
		more[i].Count = min(more[i].Count+1, end)
		less[i].Count = max(less[i].Count-1, 1)
	}
	half := slices.Clone(s.Seen[:len(s.Seen)/2])
	return [][]api.Dot{nil, {}, s.Seen, more, less, half, dots("1:1"), dots("0:3 2:2 77:1"), dots("1:1099511627776"), many(64, 1, 1)}
}

// P11.4: puts upon states at their edges, with each context, by actors ahead of, among and behind those that were seen.
func TestPutUponStates(t *testing.T) {
	for what, s := range states() {
		for _, ctx := range contexts(s) {
			for _, actor := range []uint32{0, 1, 2, 3, 5, 7, 66, 67, 1000, math.MaxUint32 - 1, math.MaxUint32} {
				wantPutAs(t, what, s, ctx, actor, "v", false)
				wantPutAs(t, what, s, ctx, actor, "", false)
				wantPutAs(t, what, s, ctx, actor, "", true)
				wantPutAs(t, what, s, ctx, actor, "v", true)
				wantPutAs(t, what, s, ctx, actor, strings.Repeat("v", 41), false)
			}
		}
	}
}

// P11.4: puts upon all small states, with every small context.
func TestPutUponSmall(t *testing.T) {
	for _, s := range small([]uint32{1, 3}, 2) {
		for i := range uint64(4) {
			for k := range uint64(4) {
				ctx := slices.DeleteFunc([]api.Dot{{Actor: 1, Count: i}, {Actor: 3, Count: k}}, func(d api.Dot) bool { return d.Count == 0 })
				for actor := range uint32(5) {
					wantPutAs(t, "small", s, ctx, actor, "n", false)
				}
			}
		}
	}
}

// P11.4: a put stands at its place between others, and replaces what its client has read, and nothing else.
func TestPut(t *testing.T) {
	for _, c := range []struct {
		on, ctx   string
		actor     uint32
		want, dot string
	}{
		{"1:1 3:1; 1:1=a 3:1=c", "", 2, "1:1 2:1 3:1; 1:1=a 2:1=x 3:1=c", "2:1"},
		{"1:1 3:1; 1:1=a 3:1=c", "", 0, "0:1 1:1 3:1; 0:1=x 1:1=a 3:1=c", "0:1"},
		{"1:1 3:1; 1:1=a 3:1=c", "", 4, "1:1 3:1 4:1; 1:1=a 3:1=c 4:1=x", "4:1"},
		{"1:1 3:1; 1:1=a 3:1=c", "", 1, "1:2 3:1; 1:1=a 1:2=x 3:1=c", "1:2"},
		{"1:1 3:1; 1:1=a 3:1=c", "1:1", 2, "1:1 2:1 3:1; 2:1=x 3:1=c", "2:1"},
		{"1:1 3:1; 1:1=a 3:1=c", "3:1", 2, "1:1 2:1 3:1; 1:1=a 2:1=x", "2:1"},
		{"1:1 3:1; 1:1=a 3:1=c", "1:1 3:1", 3, "1:1 3:2; 3:2=x", "3:2"},
		{"1:4; 1:1=a 1:2- 1:4=d", "1:2", 1, "1:5; 1:4=d 1:5=x", "1:5"},
		{"1:4; 1:1=a 1:2- 1:4=d", "1:9", 1, "1:10; 1:10=x", "1:10"},
		{"1:4; 1:1=a 1:2- 1:4=d", "1:9", 2, "1:9 2:1; 2:1=x", "2:1"},
		{"1:4; 1:1=a 1:2- 1:4=d", "2:9", 2, "1:4 2:10; 1:1=a 1:2- 1:4=d 2:10=x", "2:10"},
		{"1:4;", "1:2", 1, "1:5; 1:5=x", "1:5"},
		{"1:1; 1:1-", "1:1", 1, "1:2; 1:2=x", "1:2"},
	} {
		s, d, e := dvv.Put(state(c.on), dots(c.ctx), c.actor, "x", false)
		if !same(s, state(c.want)) || d != dots(c.dot)[0] || e != api.OK {
			t.Errorf("Put(%s, %s, %d): %v, %v, %v, want %s", c.on, c.ctx, c.actor, s, d, e, c.want)
		}
	}
}

// P11.4: a deletion is a put, too.
func TestPutGone(t *testing.T) {
	s, d, e := dvv.Put(state("1:1; 1:1=x"), dots("1:1"), 2, "", true)
	if !same(s, state("1:1 2:1; 2:1-")) || d != dots("2:1")[0] || e != api.OK {
		t.Errorf("Put: %v, %v, %v", s, d, e)
	}
	s, d, e = dvv.Put(state(""), nil, 2, "", true)
	if !same(s, state("2:1; 2:1-")) || d != dots("2:1")[0] || e != api.OK {
		t.Errorf("Put upon absent: %v, %v, %v", s, d, e)
	}
}

// P11.4: how long a value may be.
func TestPutHowLong(t *testing.T) {
	for n := range 50 {
		value := strings.Repeat("\xff", n)
		s, d, e := dvv.Put(api.State{}, nil, 1, value, false)
		if n <= 40 && (e != api.OK || d.Count != 1 || len(s.Siblings) != 1 || s.Siblings[0].Value != value || s.Siblings[0].Gone) {
			t.Errorf("%d bytes: %v, %v, %v", n, s, d, e)
		}
		if n > 40 && (e != api.ErrValue || d != (api.Dot{}) || !isZero(s)) {
			t.Errorf("%d bytes: %v, %v, %v", n, s, d, e)
		}
		wantPutAs(t, "gone", api.State{}, nil, 1, value, true)
	}
	wantPutAs(t, "a million bytes", api.State{}, nil, 1, strings.Repeat("x", 1_000_000), false)
}

// P11.4: of several errors the first of ErrState, ErrVector, ErrValue, ErrEnd, ErrBig.
func TestPutFirstError(t *testing.T) {
	long := strings.Repeat("x", 41)
	full := wide(64, 10, "x")
	ended := api.State{Seen: append(dots("1:1099511627776"), full.Seen[:63]...)}
	for _, c := range []struct {
		s     api.State
		ctx   []api.Dot
		value string
		gone  bool
		want  api.Errno
	}{
		{state("1:1; 1:2=x"), dots("1:0"), long, false, api.ErrState},
		{state("1:1; 1:2=x"), nil, "", false, api.ErrState},
		{ended, dots("1:0"), long, false, api.ErrVector},
		{ended, dots("2:1 1:1"), "x", true, api.ErrVector},
		{ended, many(65, 1, 1), "", false, api.ErrVector},
		{ended, dots("5:1"), long, false, api.ErrValue},
		{ended, dots("5:1"), "x", true, api.ErrValue},
		{ended, dots("5:1"), "x", false, api.ErrEnd},
		{full, dots("1:1099511627776"), "x", false, api.ErrEnd},
		{full, dots("1:1099511627775"), "x", false, api.ErrBig},
		{full, nil, "x", false, api.ErrBig},
		{full, full.Seen, "x", false, api.ErrBig},
		{state("1:1;"), dots("1:1099511627776"), "x", false, api.ErrEnd},
		{state("1:1099511627776; 1:3=x"), nil, "", true, api.ErrEnd},
	} {
		if s, d, e := dvv.Put(c.s, c.ctx, 1, c.value, c.gone); !isZero(s) || d != (api.Dot{}) || e != c.want {
			t.Errorf("Put(%v, %v, %q, %v): %v, %v, %v, want %v", c.s, c.ctx, c.value, c.gone, s, d, e, c.want)
		}
	}
}

// P11.4: upon what may not be there is no put; with a context that is no vector neither.
func TestPutWrong(t *testing.T) {
	for what, s := range none() {
		if after, d, e := dvv.Put(s, nil, 1, "x", false); !isZero(after) || d != (api.Dot{}) || e != api.ErrState {
			t.Errorf("%s: Put is %v, %v", what, d, e)
		}
	}
	for _, ctx := range [][]api.Dot{dots("1:0"), dots("1:1099511627777"), dots("1:18446744073709551615"), dots("2:1 1:1"), dots("1:1 1:1"), many(65, 0, 1), make([]api.Dot, 1_000_000)} {
		if s, d, e := dvv.Put(state("1:1; 1:1=x"), ctx, 1, "x", false); !isZero(s) || d != (api.Dot{}) || e != api.ErrVector {
			t.Errorf("Put with %d dots: %v, %v, %v", len(ctx), s, d, e)
		}
	}
}

// P11.4: the last dot of an actor is that of the greatest count.
func TestPutAboutTheEnd(t *testing.T) {
	for _, c := range []struct {
		seen, ctx string
		want      api.Errno
	}{
		{"1:1099511627775", "", api.OK},
		{"", "1:1099511627775", api.OK},
		{"1:1099511627775", "1:1099511627775", api.OK},
		{"1:1099511627774", "1:1099511627775", api.OK},
		{"1:1099511627776", "", api.ErrEnd},
		{"", "1:1099511627776", api.ErrEnd},
		{"1:1099511627776", "1:5", api.ErrEnd},
		{"1:5", "1:1099511627776", api.ErrEnd},
		{"2:1099511627776", "3:1099511627776", api.OK},
	} {
		s, d, e := dvv.Put(state(c.seen), dots(c.ctx), 1, "x", false)
		if e != c.want || e == api.OK != (d.Count > 0) || e == api.OK != dvv.Valid(s) && !isZero(s) {
			t.Errorf("Put(%s, %s): %v, %v, %v", c.seen, c.ctx, s, d, e)
		}
		wantPutAs(t, "about the end", state(c.seen), dots(c.ctx), 1, "x", false)
	}
}

// P11.4: up to 64 dots may be seen, and 64 siblings be there, behind the put; what it replaces does not count.
func TestPutAboutTheBounds(t *testing.T) {
	for n := 60; n <= 64; n++ {
		for more := range 4 {
			ctx := many(more, 1000, 5)
			fits := n+more+1 <= 64
			for _, s := range []api.State{wide(n, 10, "x"), {Seen: many(n, 10, 1)}} {
				after, _, e := dvv.Put(s, ctx, 1, "x", false)
				if fits != (e == api.OK) || !fits && (e != api.ErrBig || !isZero(after)) {
					t.Errorf("%d dots and %d: %v, %v", n, more, after, e)
				}
				wantPutAs(t, "a further actor", s, ctx, 1, "x", false)
				wantPutAs(t, "an actor that was seen", s, ctx, 10, "x", false)
				wantPutAs(t, "the context's actor", s, ctx, 1000, "x", false)
			}
		}
		s := rowState(n, 1, "x")
		for _, ctx := range []string{"", "1:1", "1:2", "1:64", "2:7"} {
			wantPutAs(t, "a row", s, dots(ctx), 1, "y", false)
			wantPutAs(t, "a row, another actor", s, dots(ctx), 2, "y", false)
		}
	}
	if s, _, e := dvv.Put(rowState(64, 1, "x"), nil, 1, "y", false); e != api.ErrBig || !isZero(s) {
		t.Errorf("a 65th sibling: %v, %v", s, e)
	}
	if s, _, e := dvv.Put(rowState(64, 1, "x"), dots("1:1"), 1, "y", false); e != api.OK || len(s.Siblings) != 64 {
		t.Errorf("a 64th sibling: %v, %v", s, e)
	}
}

// P11.4: drawn puts, of which some are wrong.
func TestDrawnPuts(t *testing.T) {
	r := rand.New(rand.NewSource(114))
	errs := map[api.Errno]int{}
	for range 40000 {
		s, ctx := drawn(r), drawn(r).Seen
		if r.Intn(8) == 0 {
			s, ctx = drawnAny(r), drawnAny(r).Seen
		}
		if r.Intn(3) == 0 {
			ctx = s.Seen
		}
		actor := uint32(r.Intn(6))
		x := drawnContent(r)
		if r.Intn(20) == 0 {
			x.Value += strings.Repeat("x", 35)
		}
		_, _, e := wantPut(s, ctx, actor*actor, x.Value, x.Gone)
		errs[e]++
		wantPutAs(t, "drawn", s, ctx, actor*actor, x.Value, x.Gone)
		if t.Failed() {
			t.FailNow()
		}
	}
	for _, e := range []api.Errno{api.OK, api.ErrState, api.ErrVector, api.ErrValue, api.ErrEnd, api.ErrBig} {
		if errs[e] < 50 {
			t.Errorf("only %d with %v", errs[e], e)
		}
	}
}

// R3: what Put answers is new memory.
func TestPutAnew(t *testing.T) {
	for what, s := range states() {
		for _, ctx := range contexts(s) {
			for _, actor := range []uint32{0, 1, 7, 70} {
				on := roomy(s)
				with := roomy(api.State{Seen: ctx})
				was, wasCtx := clone(whole(on)), clone(whole(with))
				first, _, e := dvv.Put(on, with.Seen, actor, "v", false)
				second, _, _ := dvv.Put(on, with.Seen, actor, "v", false)
				want := clone(second)
				scribble(first)
				if !same(whole(on), was) || !same(whole(with), wasCtx) {
					t.Errorf("%s: the new state is memory of an argument", what)
				}
				third, _, f := dvv.Put(on, with.Seen, actor, "v", false)
				if e != f || !same(second, want) || !same(third, want) {
					t.Errorf("%s: two answers share memory", what)
				}
			}
		}
	}
}
