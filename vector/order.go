package vector

import (
	"cmp"
	"slices"

	"concord/api"
)

// Max is what either of two has seen.
func Max(a, b []api.Dot) ([]api.Dot, api.Errno) {
	if !Valid(a) || !Valid(b) {
		return nil, api.ErrVector
	}
	both := most(a, b)
	if len(both) > api.MaxDots {
		return nil, api.ErrBig
	}
	return both, api.OK
}

// Below says whether b has seen all that a has.
func Below(a, b []api.Dot) bool {
	return Valid(a) && Valid(b) && slices.Equal(most(a, b), b)
}

// Compare is -1, 0 or 1: below, the same, above; 2: neither.
func Compare(a, b []api.Dot) int8 {
	below, above := Below(a, b), Below(b, a)
	switch {
	case below && above:
		return 0
	case below:
		return -1
	case above:
		return 1
	}
	return 2
}

// most is the max of two that may be, however many dots it has: Below asks for it where Max would refuse it.
func most(a, b []api.Dot) []api.Dot {
	return merged(a, b, byActor, later)
}

func byActor(x, y api.Dot) int { return cmp.Compare(x.Actor, y.Actor) }

func later(x, y api.Dot) api.Dot {
	if x.Count < y.Count {
		return y
	}
	return x
}

// merged goes side by side through two lists that rise strictly by order, and makes of them a new one that does; what stands at one place in both becomes one.
func merged[T any](a, b []T, order func(x, y T) int, one func(x, y T) T) []T {
	out := make([]T, 0, len(a)+len(b))
	for len(a) > 0 && len(b) > 0 {
		switch c := order(a[0], b[0]); {
		case c < 0:
			out, a = append(out, a[0]), a[1:]
		case c > 0:
			out, b = append(out, b[0]), b[1:]
		default:
			out, a, b = append(out, one(a[0], b[0])), a[1:], b[1:]
		}
	}
	out = append(out, a...)
	return append(out, b...)
}
