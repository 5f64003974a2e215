package dvv_test

import (
	"fmt"
	"math"
	"math/rand"
	"slices"
	"strings"

	"concord/api"
)

const (
	end       = 1 << 40 // the greatest count
	lastActor = 1<<32 - 1
)

// state is one out of a text like "1:2 3:1; 1:1=x 1:2-".
func state(text string) api.State {
	seen, rest, _ := strings.Cut(text, ";")
	s := api.State{Seen: dots(seen)}
	for _, f := range strings.Fields(rest) {
		head, value, found := strings.Cut(f, "=")
		d := dots(strings.TrimSuffix(head, "-"))
		s.Siblings = append(s.Siblings, api.Sibling{Dot: d[0], Gone: !found, Value: value})
	}
	return s
}

// dots is a list out of a text like "1:2 3:1".
func dots(text string) []api.Dot {
	var v []api.Dot
	for _, f := range strings.Fields(text) {
		var d api.Dot
		if _, err := fmt.Sscanf(f, "%d:%d", &d.Actor, &d.Count); err != nil {
			panic(f)
		}
		v = append(v, d)
	}
	return v
}

// same holds two states against each other without the package.
func same(a, b api.State) bool {
	return slices.Equal(a.Seen, b.Seen) && slices.Equal(a.Siblings, b.Siblings)
}

// isZero tells whether nothing at all is in a state.
func isZero(s api.State) bool { return len(s.Seen) == 0 && len(s.Siblings) == 0 }

// many is n dots with that count, of the actors from, from + 1 ..
func many(n int, from uint32, count uint64) []api.Dot {
	v := make([]api.Dot, n)
	for i := range v {
		v[i] = api.Dot{Actor: from + uint32(i), Count: count}
	}
	return v
}

// row is n siblings of one actor with the counts from, from + 1 ..
func row(n int, actor uint32, from uint64, value string) []api.Sibling {
	l := make([]api.Sibling, n)
	for i := range l {
		l[i] = api.Sibling{Dot: api.Dot{Actor: actor, Count: from + uint64(i)}, Value: value}
	}
	return l
}

// rowState is the state of an actor's n puts of which none replaced another one.
func rowState(n int, actor uint32, value string) api.State {
	s := api.State{Siblings: row(n, actor, 1, value)}
	if n > 0 {
		s.Seen = []api.Dot{{Actor: actor, Count: uint64(n)}}
	}
	return s
}

// wide is a state with a sibling of each of n actors from from on.
func wide(n int, from uint32, value string) api.State {
	s := api.State{Seen: many(n, from, 1)}
	for _, d := range s.Seen {
		s.Siblings = append(s.Siblings, api.Sibling{Dot: d, Value: value})
	}
	return s
}

// with is a state with this one sibling.
func with(seen string, x api.Sibling) api.State {
	return api.State{Seen: dots(seen), Siblings: []api.Sibling{x}}
}

// states are some that may be, at their edges.
func states() map[string]api.State {
	one := api.Dot{Actor: 1, Count: 1}
	return map[string]api.State{
		"absent":                     {},
		"absent, with empty lists":   {Seen: []api.Dot{}, Siblings: []api.Sibling{}},
		"seen alone":                 state("1:1;"),
		"one value":                  state("1:1; 1:1=x"),
		"one gone":                   state("1:1; 1:1-"),
		"an empty value":             with("1:1", api.Sibling{Dot: one}),
		"a value of a nought":        with("1:1", api.Sibling{Dot: one, Value: "\x00"}),
		"a value of no letters":      with("1:1", api.Sibling{Dot: one, Value: "\xff\x80\x00\xfe"}),
		"a value of 39 bytes":        with("1:1", api.Sibling{Dot: one, Value: strings.Repeat("x", 39)}),
		"a value of 40 bytes":        with("1:1", api.Sibling{Dot: one, Value: strings.Repeat("\xff", 40)}),
		"actor 0":                    state("0:1; 0:1=x"),
		"the last actor":             state("4294967295:1; 4294967295:1=x"),
		"the greatest count":         state("1:1099511627776; 1:1=a 1:1099511627775- 1:1099511627776=b"),
		"an early dot":               state("1:9; 1:1=x"),
		"a row of one actor":         state("1:4; 1:1=x 1:2- 1:3=x 1:4=a"),
		"counts that fall":           state("1:9 2:5 3:1; 1:9=x 2:5=y 3:1=z"),
		"actors without siblings":    state("1:1 2:2 3:3; 2:1=x"),
		"64 siblings of one actor":   rowState(64, 7, "x"),
		"63 siblings of one actor":   rowState(63, 7, "x"),
		"64 siblings of 64 actors":   wide(64, 0, "y"),
		"64 of the last actors":      wide(64, math.MaxUint32-63, strings.Repeat("z", 40)),
		"64 dots without siblings":   {Seen: many(64, 3, end)},
		"64 dots, 64 early siblings": {Seen: many(64, 3, end), Siblings: row(64, 66, 1, "w")},
	}
}

// none are states that may not be, each wrong in one thing but the last ones.
func none() map[string]api.State {
	one := api.Dot{Actor: 1, Count: 1}
	turned := rowState(64, 1, "x")
	turned.Siblings[62], turned.Siblings[63] = turned.Siblings[63], turned.Siblings[62]
	long := wide(64, 0, "x")
	long.Siblings[63].Value = strings.Repeat("x", 41)
	return map[string]api.State{
		"a count of 0 seen":                       state("1:0;"),
		"a count too great seen":                  state("1:1099511627777;"),
		"actors that fall":                        state("2:1 1:1;"),
		"an actor twice":                          state("1:1 1:2;"),
		"65 dots":                                 {Seen: many(65, 0, 1)},
		"not covered: nothing seen":               state("; 1:1=x"),
		"not covered: a count above":              state("1:1; 1:2=x"),
		"not covered: another actor":              state("1:1; 2:1=x"),
		"not covered: the second":                 state("1:1; 1:1=x 1:2=x"),
		"not covered: a great count":              state("1:1; 1:18446744073709551615=x"),
		"a sibling's count of 0":                  state("1:1; 1:0=x"),
		"a count of 0 of an unseen actor":         state("1:1; 0:0=x"),
		"a count of 0 of nobody":                  state("; 0:0-"),
		"siblings whose counts fall":              state("1:2; 1:2=x 1:1=y"),
		"siblings whose actors fall":              state("1:1 2:1; 2:1=x 1:1=y"),
		"siblings whose actors fall, counts rise": state("1:2 2:1; 2:1=x 1:2=y"),
		"a sibling twice":                         state("1:1; 1:1=x 1:1=x"),
		"a dot with two contents":                 state("1:1; 1:1- 1:1=x"),
		"siblings that fall behind":               state("1:3; 1:1=x 1:3=y 1:2=z"),
		"gone with a value":                       with("1:1", api.Sibling{Dot: one, Gone: true, Value: "x"}),
		"gone with a nought as value":             with("1:1", api.Sibling{Dot: one, Gone: true, Value: "\x00"}),
		"gone with 41 bytes":                      with("1:1", api.Sibling{Dot: one, Gone: true, Value: strings.Repeat("x", 41)}),
		"a value of 41 bytes":                     with("1:1", api.Sibling{Dot: one, Value: strings.Repeat("x", 41)}),
		"a value of a million bytes":              with("1:1", api.Sibling{Dot: one, Value: strings.Repeat("x", 1_000_000)}),
		"the last value of 41 bytes":              long,
		"the last two turned":                     turned,
		"65 siblings":                             rowState(65, 1, "x"),
		"a million siblings":                      rowState(1_000_000, 1, "x"),
		"a million noughts":                       {Seen: make([]api.Dot, 1_000_000), Siblings: make([]api.Sibling, 1_000_000)},
		"a nought":                                {Seen: make([]api.Dot, 1), Siblings: make([]api.Sibling, 1)},
		"a nought as sibling":                     {Seen: dots("1:1"), Siblings: make([]api.Sibling, 1)},
	}
}

// small are all states of the actors, each with up to most puts, of which each is over, gone, a or b.
func small(actors []uint32, most int) []api.State {
	all := []api.State{{}}
	for _, actor := range actors {
		var more []api.State
		for _, s := range all {
			more = append(more, grown(s, actor, most)...)
		}
		all = more
	}
	return all
}

// grown are the states that s becomes by up to most puts of an actor that stands behind all others.
func grown(s api.State, actor uint32, most int) []api.State {
	all := []api.State{s}
	last := []api.State{s}
	for count := range uint64(most) {
		d := api.Dot{Actor: actor, Count: count + 1}
		var more []api.State
		for _, x := range last {
			seen := append(slices.Clone(s.Seen), d)
			more = append(more, api.State{Seen: seen, Siblings: x.Siblings})
			for _, y := range []api.Sibling{{Dot: d, Gone: true}, {Dot: d, Value: "a"}, {Dot: d, Value: "b"}} {
				more = append(more, api.State{Seen: seen, Siblings: append(slices.Clone(x.Siblings), y)})
			}
		}
		last = more
		all = append(all, more...)
	}
	return all
}

// drawn is a state that may be; its actors and counts are mostly few, so that two that are drawn often have dots in common.
func drawn(r *rand.Rand) api.State {
	var s api.State
	actors := 1 + r.Intn(5)
	if r.Intn(10) == 0 {
		actors = 60 + r.Intn(6)
	}
	rare := 1 + r.Intn(5)
	for actor := range uint32(actors) {
		if r.Intn(4) == 0 || len(s.Seen) == 64 {
			continue
		}
		d := api.Dot{Actor: actor * actor, Count: drawnCount(r)}
		s.Seen = append(s.Seen, d)
		for c := d.Count - min(d.Count-1, 4); c <= d.Count; c++ {
			if r.Intn(rare) == 0 && len(s.Siblings) < 64 {
				x := drawnContent(r)
				x.Dot = api.Dot{Actor: d.Actor, Count: c}
				s.Siblings = append(s.Siblings, x)
			}
		}
	}
	return s
}

func drawnCount(r *rand.Rand) uint64 {
	if r.Intn(12) == 0 {
		return end - uint64(r.Intn(3))
	}
	return 1 + uint64(r.Intn(6))
}

func drawnContent(r *rand.Rand) api.Sibling {
	switch r.Intn(6) {
	case 0:
		return api.Sibling{Gone: true}
	case 1:
		return api.Sibling{Value: strings.Repeat(string([]byte{byte(r.Intn(256))}), r.Intn(41))}
	}
	return api.Sibling{Value: []string{"", "a", "b", "ab", "\xff"}[r.Intn(5)]}
}

// drawnAny is a state that often may not be.
func drawnAny(r *rand.Rand) api.State {
	s := drawn(r)
	if r.Intn(2) == 0 || len(s.Siblings) == 0 {
		return s
	}
	l := s.Siblings
	i, k := r.Intn(len(l)), r.Intn(len(l))
	switch r.Intn(9) {
	case 0:
		l[i].Value = strings.Repeat("v", 41+r.Intn(3))
	case 1:
		l[i].Gone = !l[i].Gone
	case 2:
		l[i], l[k] = l[k], l[i]
	case 3:
		l[i].Dot.Count += uint64(r.Intn(3))
	case 4:
		l[i].Dot.Count = 0
	case 5:
		s.Siblings = append(l, l[i])
	case 6:
		l[i].Dot.Actor++
	case 7:
		s.Seen[r.Intn(len(s.Seen))].Count = []uint64{0, 1, end, end + 1}[r.Intn(4)]
	case 8:
		s.Seen = s.Seen[:len(s.Seen)-1]
	}
	return s
}

// changed is a copy in which a few contents are turned, and siblings taken out.
func changed(r *rand.Rand, s api.State) api.State {
	s = clone(s)
	for range r.Intn(4) {
		if len(s.Siblings) == 0 {
			return s
		}
		i := r.Intn(len(s.Siblings))
		switch r.Intn(3) {
		case 0:
			s.Siblings = slices.Delete(s.Siblings, i, i+1)
		case 1:
			d := s.Siblings[i].Dot
			s.Siblings[i] = drawnContent(r)
			s.Siblings[i].Dot = d
		case 2:
			s, _, _ = wantPut(s, nil, uint32(r.Intn(5)), "n", false)
		}
	}
	return s
}

func clone(s api.State) api.State {
	return api.State{Seen: slices.Clone(s.Seen), Siblings: slices.Clone(s.Siblings)}
}

// roomy is the same state with marked room behind its lists' ends.
func roomy(s api.State) api.State {
	out := clone(s)
	for range 70 {
		out.Seen = append(out.Seen, api.Dot{Actor: 4711, Count: 815})
		out.Siblings = append(out.Siblings, api.Sibling{Value: "room"})
	}
	return api.State{Seen: out.Seen[:len(s.Seen)], Siblings: out.Siblings[:len(s.Siblings)]}
}

// whole is a state with what stands in the room behind its lists' ends.
func whole(s api.State) api.State {
	return api.State{Seen: s.Seen[:cap(s.Seen)], Siblings: s.Siblings[:cap(s.Siblings)]}
}

// scribble writes over all that a state's lists hold, and over the room behind their ends.
func scribble(s api.State) {
	s = whole(s)
	for i := range s.Seen {
		s.Seen[i] = api.Dot{Actor: 99, Count: 99}
	}
	for i := range s.Siblings {
		s.Siblings[i] = api.Sibling{Value: "scribbled"}
	}
}
