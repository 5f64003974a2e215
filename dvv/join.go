package dvv

import (
	"concord/api"
	"concord/vector"
)

// Join is the least state above both.
func Join(a, b api.State) (api.State, api.Errno) {
	if !Valid(a) || !Valid(b) {
		return api.State{}, api.ErrState
	}
	seen, e := vector.Max(a.Seen, b.Seen)
	if e != api.OK {
		return api.State{}, e
	}
	siblings := joined(a, b)
	if len(siblings) > api.MaxDots {
		return api.State{}, api.ErrBig
	}
	return api.State{Seen: seen, Siblings: siblings}, api.OK
}

// Below tells whether b has all that a has.
func Below(a, b api.State) bool {
	both, e := Join(a, b) // one that is too great is not b, which may be
	return e == api.OK && Same(both, b)
}

// joined are the siblings of the join of two states that may be, however many there are.
func joined(a, b api.State) []api.Sibling {
	var out []api.Sibling
	x, y := a.Siblings, b.Siblings
sides:
	for {
		switch {
		case len(x) == 0:
			out = unseen(out, y, a.Seen)
			break sides
		case len(y) == 0:
			out = unseen(out, x, b.Seen)
			break sides
		case x[0].Dot == y[0].Dot:
			out = append(out, lesser(x[0], y[0]))
			x, y = x[1:], y[1:]
		case ahead(x[0].Dot, y[0].Dot):
			out, x = unseen(out, x[:1], b.Seen), x[1:]
		default:
			out, y = unseen(out, y[:1], a.Seen), y[1:]
		}
	}
	return out
}

// unseen lays behind out those siblings that seen does not cover: whoever has seen a dot and does not hold it knows that it is over.
func unseen(out, siblings []api.Sibling, seen []api.Dot) []api.Sibling {
	for _, x := range siblings {
		if !vector.Covers(seen, x.Dot) {
			out = append(out, x)
		}
	}
	return out
}

// lesser is that one of two siblings with one dot whose content is the lesser.
func lesser(x, y api.Sibling) api.Sibling {
	if contentOf(y).below(contentOf(x)) {
		return y
	}
	return x
}
