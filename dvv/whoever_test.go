package dvv_test

import (
	"math/rand"
	"slices"
	"testing"

	"concord/api"
	"concord/dvv"
	"concord/vector"
)

// A done put is its dot with its content, and the context it was made with.
type done struct {
	put api.Sibling
	ctx []api.Dot
}

// world is some states, each with an actor of its own; the Seens they ever had; and the puts that were done.
type world struct {
	states []api.State
	actors []uint32
	seens  [][]api.Dot
	puts   []done
}

func newWorld(r *rand.Rand) *world {
	w := &world{seens: [][]api.Dot{nil}}
	for i := range 1 + r.Intn(5) {
		w.states = append(w.states, api.State{})
		w.actors = append(w.actors, []uint32{3, 0, 4294967295, 2, 128}[i])
	}
	return w
}

// put makes one at a state, with what one of them has or had seen as its context, or with none.
func (w *world) put(t *testing.T, r *rand.Rand) {
	i := r.Intn(len(w.states))
	ctx := w.seens[r.Intn(len(w.seens))]
	switch r.Intn(4) {
	case 0:
		ctx = nil
	case 1:
		ctx = w.states[i].Seen
	case 2:
		ctx = w.states[r.Intn(len(w.states))].Seen
	}
	x := drawnContent(r)
	s, d, e := dvv.Put(w.states[i], ctx, w.actors[i], x.Value, x.Gone)
	if e != api.OK {
		t.Fatalf("Put(%v, %v): %v", w.states[i], ctx, e)
	}
	x.Dot = d
	for _, p := range w.puts {
		if p.put.Dot == d {
			t.Fatalf("%v was given twice", d)
		}
	}
	w.puts = append(w.puts, done{x, ctx})
	w.is(i, s)
}

// join joins one into another one.
func (w *world) join(t *testing.T, r *rand.Rand) {
	i, k := r.Intn(len(w.states)), r.Intn(len(w.states))
	w.is(i, joinOf(t, w.states[i], w.states[k]))
}

func (w *world) is(i int, s api.State) {
	w.states[i] = s
	w.seens = append(w.seens, s.Seen)
}

// all is the join of all states, which are told in any order.
func (w *world) all(t *testing.T, r *rand.Rand) api.State {
	var s api.State
	for _, i := range r.Perm(len(w.states)) {
		if r.Intn(2) == 0 {
			s = joinOf(t, s, w.states[i])
		} else {
			s = joinOf(t, w.states[i], s)
		}
	}
	return s
}

// want is what the puts alone say: each is there, if no put's context covers it.
func (w *world) want() api.State {
	var s api.State
	for _, p := range w.puts {
		s.Seen = least(s.Seen, []api.Dot{p.put.Dot})
		if !slices.ContainsFunc(w.puts, func(q done) bool { return vector.Covers(q.ctx, p.put.Dot) }) {
			s.Siblings = append(s.Siblings, p.put)
		}
	}
	slices.SortFunc(s.Siblings, bySibling)
	return s
}

// P11.8, P4: whoever tells it to whom, the join of all hangs on the puts alone.
func TestWhoeverTellsItToWhom(t *testing.T) {
	r := rand.New(rand.NewSource(121))
	over, there := 0, 0
	for range 1500 {
		w := newWorld(r)
		talk := 1 + r.Intn(6) // how often they join, against how often they put
		for range r.Intn(60) {
			if r.Intn(6) < talk {
				w.join(t, r)
			} else {
				w.put(t, r)
			}
		}
		want := w.want()
		if got := w.all(t, r); !same(got, want) {
			t.Fatalf("%v: the join of all is %v, want %v", w.puts, got, want)
		}
		there += len(want.Siblings)
		over += len(w.puts) - len(want.Siblings)
	}
	if over < 2000 || there < 2000 {
		t.Errorf("%d are over, %d there", over, there)
	}
}

// P11.8: the same puts, with the same contexts, told to others in between or not, come to the same join of all.
func TestTheSamePutsToldOtherwise(t *testing.T) {
	r := rand.New(rand.NewSource(122))
	for range 500 {
		w := newWorld(r)
		for range 5 + r.Intn(30) {
			if r.Intn(2) == 0 {
				w.join(t, r)
			} else {
				w.put(t, r)
			}
		}
		alone := retold(t, r, w, false)
		if got := alone.all(t, r); !same(got, w.all(t, r)) {
			t.Fatalf("%v: told to nobody: %v, else %v", w.puts, got, w.all(t, r))
		}
		talked := retold(t, r, w, true)
		if got := talked.all(t, r); !same(got, w.all(t, r)) {
			t.Fatalf("%v: told otherwise: %v, else %v", w.puts, got, w.all(t, r))
		}
	}
}

// retold does the puts of a world once more upon absent states, with joins in between, or without.
func retold(t *testing.T, r *rand.Rand, w *world, talk bool) *world {
	again := &world{states: make([]api.State, len(w.states)), actors: w.actors}
	for _, p := range w.puts {
		i := slices.Index(w.actors, p.put.Dot.Actor)
		s, d, e := dvv.Put(again.states[i], p.ctx, p.put.Dot.Actor, p.put.Value, p.put.Gone)
		if e != api.OK || d != p.put.Dot {
			t.Fatalf("Put(%v, %v): %v, %v, once %v", again.states[i], p.ctx, d, e, p.put.Dot)
		}
		again.is(i, s)
		for talk && r.Intn(2) == 0 {
			again.join(t, r)
		}
	}
	return again
}
