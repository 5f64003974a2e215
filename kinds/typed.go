package kinds

import (
	"slices"

	"concord/api"
	"concord/wire"
)

// The byte of a flag that tells whether it is on.
const (
	offMark = 0
	onMark  = 1
)

// typed is what a value of a kind is made of; what its kind does not use is zero. A float stands in floats alone, a corner's two parts one behind the other.
type typed struct {
	kind   uint8
	on     bool
	floats []float64
	tally  tally
	runes  []rune
}

// take is what a value is made of; false: it is of no kind.
func take(value string) (typed, bool) {
	if len(value) > api.MaxValue {
		return typed{}, false
	}
	r := wire.NewReader(value)
	t := typed{kind: r.Byte()}
	switch t.kind {
	case KindFlag:
		t.on = r.Byte() == onMark
	case KindTally:
		t.tally = takeTally(r)
	case KindRunes:
		t.runes = takeRunes(r)
	case KindCorner:
		t.floats = append(t.floats, r.Float())
		fallthrough // what is left are a float's bytes
	case KindReal:
		t.floats = append(t.floats, r.Float())
	default:
		r.Fail(api.ErrKind)
	}
	// There is one row of bytes a value, so bytes that are not told again as they are (a mark of 2, a replica 6, runes that fall) are of no kind.
	if r.End() != api.OK || t.told() != value {
		return typed{}, false
	}
	return t, true
}

// takeRunes takes all that is left. Bytes that are no rune's become another rune, which is told by other bytes.
func takeRunes(r *wire.Reader) []rune {
	var l []rune
	for _, x := range r.Raw(r.Left()) {
		l = append(l, x)
	}
	return setOf(l)
}

// setOf are these runes, rising, each once.
func setOf(l []rune) []rune {
	set := slices.Clone(l)
	slices.Sort(set)
	return slices.Compact(set)
}

// told are the bytes.
func (t typed) told() string {
	w := wire.NewWriter()
	w.Byte(t.kind)
	switch t.kind {
	case KindFlag:
		if t.on {
			w.Byte(onMark)
		} else {
			w.Byte(offMark)
		}
	case KindTally:
		t.tally.put(w)
	case KindRunes:
		w.Raw(string(t.runes))
	case KindReal, KindCorner:
		for _, x := range t.floats {
			w.Float(x)
		}
	}
	return w.Told()
}

// bounded are the bytes, if they are not more than a value's.
func (t typed) bounded() (string, api.Errno) {
	value := t.told()
	if len(value) > api.MaxValue {
		return "", api.ErrBig
	}
	return value, api.OK
}

// join is what two of one kind come to. It goes through the parts of all kinds: those that the kind does not use stay zero.
func (t typed) join(u typed) typed {
	joined := typed{
		kind:  t.kind,
		on:    t.on || u.on,
		tally: t.tally.join(u.tally),
		runes: setOf(slices.Concat(t.runes, u.runes)),
	}
	for i, x := range t.floats {
		joined.floats = append(joined.floats, greater(x, u.floats[i]))
	}
	return joined
}
