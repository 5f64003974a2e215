package object_test

import (
	"fmt"
	"math/rand"
	"slices"
	"strings"

	"concord/api"
)

const (
	end       = 1 << 40 // the greatest count
	lastActor = 1<<32 - 1
)

// state is one out of a text like "1:2 3:1; 1:1=x 1:2-".
func state(text string) api.State {
	seen, rest, _ := strings.Cut(text, ";")
	s := api.State{Seen: dots(seen)}
	for _, f := range strings.Fields(rest) {
		head, value, found := strings.Cut(f, "=")
		d := dots(strings.TrimSuffix(head, "-"))
		s.Siblings = append(s.Siblings, api.Sibling{Dot: d[0], Gone: !found, Value: value})
	}
	return s
}

// dots is a list out of a text like "1:2 3:1".
func dots(text string) []api.Dot {
	var v []api.Dot
	for _, f := range strings.Fields(text) {
		var d api.Dot
		if _, err := fmt.Sscanf(f, "%d:%d", &d.Actor, &d.Count); err != nil {
			panic(f)
		}
		v = append(v, d)
	}
	return v
}

// of is a key with a state out of a text.
func of(key, text string) api.Object { return api.Object{Key: key, State: state(text)} }

// same holds two objects against each other without the package.
func same(a, b api.Object) bool {
	return a.Key == b.Key && slices.Equal(a.State.Seen, b.State.Seen) && slices.Equal(a.State.Siblings, b.State.Siblings)
}

// isZero tells whether nothing at all is in an object.
func isZero(o api.Object) bool { return same(o, api.Object{}) }

// many is n dots with that count, of the actors from, from + 1 ..
func many(n int, from uint32, count uint64) []api.Dot {
	v := make([]api.Dot, n)
	for i := range v {
		v[i] = api.Dot{Actor: from + uint32(i), Count: count}
	}
	return v
}

// row is the state of an actor's n puts of which none replaced another one.
func row(n int, actor uint32, value string) api.State {
	var s api.State
	for i := range uint64(n) {
		s.Siblings = append(s.Siblings, api.Sibling{Dot: api.Dot{Actor: actor, Count: i + 1}, Value: value})
	}
	if n > 0 {
		s.Seen = []api.Dot{{Actor: actor, Count: uint64(n)}}
	}
	return s
}

// sized is a state of actor whose bytes are n, 12 or more: rows of values of 40 bytes, and of what is left.
func sized(n int, actor uint32) api.State {
	s := api.State{Seen: []api.Dot{{Actor: actor, Count: 64}}}
	left := n - 4
	for left > 0 {
		long := min(left-4, 40)
		if rest := left - 4 - long; rest > 0 && rest < 4 {
			long -= 4 // so that there is room for a further sibling
		}
		d := api.Dot{Actor: actor, Count: uint64(len(s.Siblings)) + 1}
		s.Siblings = append(s.Siblings, api.Sibling{Dot: d, Value: strings.Repeat("v", long)})
		left -= 4 + long
	}
	if got := len(list(s)); got != n {
		panic(fmt.Sprint(n, " bytes were asked for: ", got))
	}
	return s
}

// keys are some that may be, at their edges.
func keys() []string {
	return []string{"a", "b", "k", "\x00", "\xff", "K", "O", "ab", "a\x00", strings.Repeat("k", 31), strings.Repeat("k", 32), strings.Repeat("\xff", 32), strings.Repeat("\x00", 32)}
}

// noKeys are texts that are none.
func noKeys() []string {
	return []string{"", strings.Repeat("k", 33), strings.Repeat("\x00", 33), strings.Repeat("k", 64), strings.Repeat("k", 1_000_000)}
}

// states are some that may be and are small enough, at their edges; the first two are absent.
func states() []api.State {
	one := dots("1:1")
	return []api.State{
		{},
		{Seen: []api.Dot{}, Siblings: []api.Sibling{}},
		state("1:1;"),
		state("1:1; 1:1=x"),
		state("1:1; 1:1-"),
		state("1:1; 1:1="),
		{Seen: one, Siblings: []api.Sibling{{Dot: one[0], Value: "\x00"}}},
		{Seen: one, Siblings: []api.Sibling{{Dot: one[0], Value: strings.Repeat("\xff", 40)}}},
		state("0:1; 0:1=x"),
		state("4294967295:1; 4294967295:1=x"),
		state("1:1099511627776; 1:1=a 1:1099511627775- 1:1099511627776=b"),
		state("1:9 2:5 3:1; 1:9=x 2:5=y 3:1=z"),
		{Seen: many(64, 0, 1)},
		{Seen: many(34, 1, end)},
		row(64, 7, ""),
		row(55, 7, "x"),
		sized(279, 1),
		sized(280, 1),
	}
}

// great are states that may be, and have too many bytes.
func great() []api.State {
	return []api.State{sized(281, 1), sized(282, 2), row(41, 1, strings.Repeat("v", 40)), row(64, 7, "x"), {Seen: many(64, 0, end)}, {Seen: many(40, 1, end)}}
}

// noStates are some that may not be.
func noStates() []api.State {
	one := dots("1:1")
	return []api.State{
		state("1:0;"),
		state("1:1099511627777;"),
		state("2:1 1:1;"),
		state("1:1 1:2;"),
		{Seen: many(65, 0, 1)},
		state("; 1:1=x"),
		state("1:1; 1:2=x"),
		state("1:1; 2:1=x"),
		state("1:1; 1:0=x"),
		state("1:2; 1:2=x 1:1=y"),
		state("1:1; 1:1=x 1:1=x"),
		{Seen: one, Siblings: []api.Sibling{{Dot: one[0], Gone: true, Value: "x"}}},
		state("1:1; 1:1=" + strings.Repeat("x", 41)),
		row(65, 1, ""),
		row(100_000, 1, strings.Repeat("x", 40)),
		{Seen: make([]api.Dot, 1_000_000), Siblings: make([]api.Sibling, 1_000_000)},
	}
}

// objects are some that may be, at their edges: each state with some keys.
func objects() []api.Object {
	var all []api.Object
	for i, s := range states() {
		for _, key := range []string{"k", keys()[i%len(keys())]} {
			all = append(all, api.Object{Key: key, State: s})
		}
	}
	for _, key := range keys() {
		all = append(all, of(key, "1:1; 1:1=x"), of(key, ""))
	}
	return all
}

// none are objects that may not be, with what is wrong with each.
func none() map[api.Errno][]api.Object {
	all := map[api.Errno][]api.Object{}
	for _, key := range noKeys() {
		for _, s := range slices.Concat(states()[:4], great()[:2], noStates()[:6]) {
			all[api.ErrKey] = append(all[api.ErrKey], api.Object{Key: key, State: s})
		}
	}
	for _, s := range noStates() {
		all[api.ErrState] = append(all[api.ErrState], api.Object{Key: "k", State: s}, api.Object{Key: strings.Repeat("k", 32), State: s})
	}
	for _, s := range great() {
		all[api.ErrBig] = append(all[api.ErrBig], api.Object{Key: "k", State: s}, api.Object{Key: strings.Repeat("k", 32), State: s})
	}
	return all
}

// drawnState is a state that may be and is mostly small enough; its actors and counts are few, so that two that are drawn often have dots in common.
func drawnState(r *rand.Rand) api.State {
	var s api.State
	actors := 1 + r.Intn(4)
	if r.Intn(12) == 0 {
		actors = 20 + r.Intn(30)
	}
	long := 5
	if r.Intn(4) == 0 {
		long = 41
	}
	for actor := range uint32(actors) {
		if r.Intn(4) == 0 {
			continue
		}
		d := api.Dot{Actor: actor * actor, Count: drawnCount(r)}
		s.Seen = append(s.Seen, d)
		for c := d.Count - min(d.Count-1, 4); c <= d.Count; c++ {
			if r.Intn(3) == 0 && len(s.Siblings) < 64 {
				s.Siblings = append(s.Siblings, drawnSibling(r, api.Dot{Actor: d.Actor, Count: c}, long))
			}
		}
	}
	return s
}

func drawnCount(r *rand.Rand) uint64 {
	if r.Intn(12) == 0 {
		return end - uint64(r.Intn(3))
	}
	return 1 + uint64(r.Intn(6))
}

// drawnSibling has a value of fewer than long bytes, or is gone.
func drawnSibling(r *rand.Rand, d api.Dot, long int) api.Sibling {
	if r.Intn(6) == 0 {
		return api.Sibling{Dot: d, Gone: true}
	}
	return api.Sibling{Dot: d, Value: strings.Repeat(string([]byte{"ab\xff"[r.Intn(3)]}), r.Intn(long))}
}

// drawn is an object that mostly may be.
func drawn(r *rand.Rand) api.Object {
	o := api.Object{Key: drawnKey(r), State: drawnState(r)}
	if r.Intn(10) == 0 {
		o.Key = strings.Repeat("k", []int{0, 33, 34, 64}[r.Intn(4)])
	}
	if r.Intn(10) == 0 && len(o.State.Siblings) > 0 {
		i := r.Intn(len(o.State.Siblings))
		x := &o.State.Siblings[i]
		switch r.Intn(4) {
		case 0:
			x.Value = strings.Repeat("v", 41)
		case 1:
			x.Gone = !x.Gone
		case 2:
			x.Dot.Count++
		case 3:
			o.State.Siblings = append(o.State.Siblings, *x)
		}
	}
	return o
}

func drawnKey(r *rand.Rand) string {
	if r.Intn(3) > 0 {
		return []string{"k", "l"}[r.Intn(2)]
	}
	b := make([]byte, 1+r.Intn(32))
	r.Read(b)
	return string(b)
}

// drawnFew is an object of one key that may be, of few bytes, so that no merge of three is refused.
func drawnFew(r *rand.Rand) api.Object {
	for {
		o := api.Object{Key: "k", State: drawnState(r)}
		if len(list(o.State)) < 90 {
			return o
		}
	}
}

func clone(o api.Object) api.Object {
	return api.Object{Key: o.Key, State: api.State{Seen: slices.Clone(o.State.Seen), Siblings: slices.Clone(o.State.Siblings)}}
}

// roomy is the same object with marked room behind its lists' ends.
func roomy(o api.Object) api.Object {
	out := clone(o)
	for range 70 {
		out.State.Seen = append(out.State.Seen, api.Dot{Actor: 4711, Count: 815})
		out.State.Siblings = append(out.State.Siblings, api.Sibling{Value: "room"})
	}
	out.State.Seen = out.State.Seen[:len(o.State.Seen)]
	out.State.Siblings = out.State.Siblings[:len(o.State.Siblings)]
	return out
}

// whole is an object with what stands in the room behind its lists' ends.
func whole(o api.Object) api.Object {
	o.State.Seen = o.State.Seen[:cap(o.State.Seen)]
	o.State.Siblings = o.State.Siblings[:cap(o.State.Siblings)]
	return o
}

// scribble writes over all that an object's lists hold, and over the room behind their ends.
func scribble(o api.Object) {
	o = whole(o)
	for i := range o.State.Seen {
		o.State.Seen[i] = api.Dot{Actor: 99, Count: 99}
	}
	for i := range o.State.Siblings {
		o.State.Siblings[i] = api.Sibling{Value: "scribbled"}
	}
}
