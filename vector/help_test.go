package vector_test

import (
	"cmp"
	"math"
	"math/rand"
	"slices"

	"concord/api"
)

const end = 1 << 40 // the greatest count

// of is a list of dots that are told as actor, count, actor, count ..
func of(numbers ...uint64) []api.Dot {
	var v []api.Dot
	for i := 0; i < len(numbers); i += 2 {
		v = append(v, dot(numbers[i], numbers[i+1]))
	}
	return v
}

func dot(actor, count uint64) api.Dot { return api.Dot{Actor: uint32(actor), Count: count} }

// many is n dots with that count, of the actors from, from + step ..
func many(n int, from, step uint32, count uint64) []api.Dot {
	v := make([]api.Dot, n)
	for i := range v {
		v[i] = api.Dot{Actor: from + uint32(i)*step, Count: count}
	}
	return v
}

// vectors are some that may be: the empty one, the ends of actors, of counts and of the length.
func vectors() map[string][]api.Dot {
	return map[string][]api.Dot{
		"none, nil":           nil,
		"none, empty":         {},
		"actor 0":             of(0, 1),
		"the last actor":      of(math.MaxUint32, 1),
		"both ends":           of(0, 1, math.MaxUint32, end),
		"the greatest count":  of(1, end),
		"one below it":        of(1, end-1),
		"two":                 of(1, 2, 3, 1),
		"neighbours":          of(1, 5, 2, 5, 3, 5),
		"counts that fall":    of(1, 9, 2, 8, 300, 7),
		"about a digit":       of(127, 127, 128, 128, 16383, 16384),
		"63 dots":             many(63, 0, 1, 1),
		"64 dots":             many(64, 0, 1, 1),
		"64 of the last ones": many(64, math.MaxUint32-63, 1, end),
		"64 far apart":        many(64, 5, 1<<25, 77),
	}
}

// none are lists that may not be, each wrong in one thing but the last ones.
func none() map[string][]api.Dot {
	turned := many(64, 0, 1, 1)
	turned[62], turned[63] = turned[63], turned[62]
	stopped := many(64, 0, 1, 1)
	stopped[63].Count = 0
	return map[string][]api.Dot{
		"a count of 0":                 of(1, 0),
		"a count of 0 at actor 0":      of(0, 0),
		"a count of 0 behind others":   of(1, 1, 2, 1, 3, 0),
		"a count of 0 ahead":           of(1, 0, 2, 1),
		"a count one too great":        of(1, end+1),
		"the greatest number as count": of(1, math.MaxUint64),
		"a count too great behind":     of(0, 1, 1, end+1),
		"a count too great ahead":      of(1, end+1, 2, 1),
		"a count that is 1 if cut":     of(1, 1<<32+1, 2, 1<<63+1),
		"actors that fall":             of(3, 1, 1, 2),
		"actors that fall to 0":        of(1, 1, 0, 1),
		"actors that fall behind":      of(1, 1, 2, 1, 1, 1),
		"an actor twice":               of(1, 1, 1, 2),
		"a dot twice":                  of(1, 1, 1, 1),
		"actor 0 twice":                of(0, 1, 0, 2),
		"the last actor twice":         of(math.MaxUint32, 1, math.MaxUint32, 2),
		"the last two turned":          turned,
		"the last count 0":             stopped,
		"65 dots":                      many(65, 0, 1, 1),
		"128 dots":                     many(128, 0, 1, 1),
		"a million dots":               many(1_000_000, 0, 1, 1),
		"65 noughts":                   make([]api.Dot, 65),
		"a nought":                     make([]api.Dot, 1),
	}
}

// small are all vectors of three actors, with counts of 0 (no dot), 1, 2 and the greatest.
func small() [][]api.Dot {
	var all [][]api.Dot
	counts := []uint64{0, 1, 2, end}
	for i := range 64 {
		var v []api.Dot
		for k, actor := range []uint64{0, 7, math.MaxUint32} {
			if c := counts[i>>(2*k)&3]; c > 0 {
				v = append(v, dot(actor, c))
			}
		}
		all = append(all, v)
	}
	return all
}

// drawn is a vector of up to most dots; its actors are mostly few, so that two that are drawn often have some in common.
func drawn(r *rand.Rand, most int) []api.Dot {
	counts := map[uint32]uint64{}
	actors := []int{8, 100, math.MaxUint32}[r.Intn(3)]
	n := r.Intn(most + 1)
	for range n {
		counts[uint32(r.Intn(actors+1))] = drawnCount(r)
	}
	return fromMap(counts)
}

func drawnCount(r *rand.Rand) uint64 {
	switch r.Intn(5) {
	case 0:
		return end - uint64(r.Intn(2))
	case 1:
		return 1 + uint64(r.Int63n(end))
	}
	return 1 + uint64(r.Intn(3))
}

// drawnList is a list of dots that often may not be.
func drawnList(r *rand.Rand) []api.Dot {
	v := drawn(r, 6)
	if r.Intn(2) == 0 || len(v) == 0 {
		return v
	}
	i, k := r.Intn(len(v)), r.Intn(len(v))
	switch r.Intn(5) {
	case 0:
		v[i].Count = 0
	case 1:
		v[i].Count = end + 1 + r.Uint64()>>1>>uint(r.Intn(63))
	case 2:
		v[i], v[k] = v[k], v[i]
	case 3:
		v[i].Actor = v[k].Actor
	case 4:
		v = append(v, v[i])
	}
	return v
}

// fromMap is the vector of a map's counts.
func fromMap(counts map[uint32]uint64) []api.Dot {
	var v []api.Dot
	for actor, count := range counts {
		v = append(v, api.Dot{Actor: actor, Count: count})
	}
	slices.SortFunc(v, func(x, y api.Dot) int { return cmp.Compare(x.Actor, y.Actor) })
	return v
}

// roomy is the same list with marked room behind its end.
func roomy(v []api.Dot) []api.Dot {
	out := slices.Clone(v)
	for range 70 {
		out = append(out, dot(4711, 815))
	}
	return out[:len(v)]
}

// whole is a list with what stands in the room behind its end.
func whole(v []api.Dot) []api.Dot { return v[:cap(v)] }

// scribble writes over all that a list holds, and over the room behind its end.
func scribble(v []api.Dot) {
	for i := range whole(v) {
		whole(v)[i] = dot(99, 99)
	}
}
