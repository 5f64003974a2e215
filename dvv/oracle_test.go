package dvv_test

import (
	"cmp"
	"math"
	"slices"
	"strings"

	"concord/api"
)

// The oracle goes dot by dot, by what a state says of each; it shares nothing with the package, with vector or with wire.

func vectorMayBe(v []api.Dot) bool {
	last := int64(-1)
	for _, d := range v {
		if int64(d.Actor) <= last || d.Count == 0 || d.Count > 1099511627776 {
			return false
		}
		last = int64(d.Actor)
	}
	return len(v) <= 64
}

// count is an actor's greatest count in a list.
func count(v []api.Dot, actor uint32) uint64 {
	var most uint64
	for _, d := range v {
		if d.Actor == actor {
			most = max(most, d.Count)
		}
	}
	return most
}

// least is the least vector above some, however many dots it has.
func least(vectors ...[]api.Dot) []api.Dot {
	m := map[uint32]uint64{}
	for _, v := range vectors {
		for _, d := range v {
			m[d.Actor] = max(m[d.Actor], d.Count)
		}
	}
	var out []api.Dot
	for actor, count := range m {
		out = append(out, api.Dot{Actor: actor, Count: count})
	}
	slices.SortFunc(out, byDot)
	return out
}

func byDot(d, e api.Dot) int {
	return cmp.Or(cmp.Compare(d.Actor, e.Actor), cmp.Compare(d.Count, e.Count))
}

func bySibling(x, y api.Sibling) int { return byDot(x.Dot, y.Dot) }

func mayBe(s api.State) bool {
	if !vectorMayBe(s.Seen) || len(s.Siblings) > 64 {
		return false
	}
	for i, x := range s.Siblings {
		if i > 0 && byDot(s.Siblings[i-1].Dot, x.Dot) >= 0 {
			return false
		}
		if x.Dot.Count < 1 || x.Dot.Count > count(s.Seen, x.Dot.Actor) || len(x.Value) > 40 || x.Gone && x.Value != "" {
			return false
		}
	}
	return true
}

// A saying is what a state says of a dot: unseen, there with a content, or over.
type saying struct {
	rank    int
	content string
}

const (
	unseenRank = iota
	thereRank
	overRank
)

// contentOf is a content as a text, in the order of contents.
func contentOf(x api.Sibling) string {
	if x.Gone {
		return ""
	}
	return "=" + x.Value
}

func says(s api.State, d api.Dot) saying {
	for _, x := range s.Siblings {
		if x.Dot == d {
			return saying{thereRank, contentOf(x)}
		}
	}
	if d.Count > 0 && d.Count <= count(s.Seen, d.Actor) {
		return saying{rank: overRank}
	}
	return saying{rank: unseenRank}
}

func later(x, y saying) saying {
	switch {
	case x.rank > y.rank:
		return x
	case x.rank < y.rank:
		return y
	}
	return saying{x.rank, min(x.content, y.content)}
}

// told are the dots of which either of two states says more than of all others of their actors: its siblings', and the greatest ones seen.
func told(a, b api.State) []api.Dot {
	all := slices.Concat(a.Seen, b.Seen)
	for _, x := range slices.Concat(a.Siblings, b.Siblings) {
		all = append(all, x.Dot)
	}
	slices.SortFunc(all, byDot)
	return slices.Compact(all)
}

// wantJoin is the join of two, and its error.
func wantJoin(a, b api.State) (api.State, api.Errno) {
	if !mayBe(a) || !mayBe(b) {
		return api.State{}, 110
	}
	s := api.State{Seen: least(a.Seen, b.Seen)}
	for _, d := range told(a, b) {
		if x := later(says(a, d), says(b, d)); x.rank == thereRank {
			value, found := strings.CutPrefix(x.content, "=")
			s.Siblings = append(s.Siblings, api.Sibling{Dot: d, Gone: !found, Value: value})
		}
	}
	if len(s.Seen) > 64 || len(s.Siblings) > 64 {
		return api.State{}, 82
	}
	return s, 0
}

func wantBelow(a, b api.State) bool {
	if !mayBe(a) || !mayBe(b) {
		return false
	}
	for _, d := range told(a, b) {
		if later(says(a, d), says(b, d)) != says(b, d) {
			return false
		}
	}
	return true
}

// wantPut is what a put makes.
func wantPut(s api.State, ctx []api.Dot, actor uint32, value string, gone bool) (api.State, api.Dot, api.Errno) {
	switch {
	case !mayBe(s):
		return api.State{}, api.Dot{}, 110
	case !vectorMayBe(ctx):
		return api.State{}, api.Dot{}, 100
	case len(value) > 40 || gone && len(value) > 0:
		return api.State{}, api.Dot{}, 131
	}
	d := api.Dot{Actor: actor, Count: count(least(s.Seen, ctx), actor) + 1}
	if d.Count > 1099511627776 {
		return api.State{}, api.Dot{}, 101
	}
	after := api.State{Seen: least(s.Seen, ctx, []api.Dot{d})}
	after.Siblings = append(after.Siblings, api.Sibling{Dot: d, Gone: gone, Value: value})
	for _, x := range s.Siblings {
		if x.Dot.Count > count(ctx, x.Dot.Actor) {
			after.Siblings = append(after.Siblings, x)
		}
	}
	slices.SortFunc(after.Siblings, bySibling)
	if len(after.Seen) > 64 || len(after.Siblings) > 64 {
		return api.State{}, api.Dot{}, 82
	}
	return after, d, 0
}

func wantValues(s api.State) []string {
	if !mayBe(s) {
		return nil
	}
	set := map[string]bool{}
	for _, x := range s.Siblings {
		set[x.Value] = set[x.Value] || !x.Gone
	}
	var out []string
	for value, there := range set {
		if there {
			out = append(out, value)
		}
	}
	slices.Sort(out)
	return out
}

// number is a number's bytes to the base 128.
func number(n uint64) string {
	if n < 128 {
		return string([]byte{byte(n)})
	}
	return string([]byte{byte(n%128 + 128)}) + number(n/128)
}

// list is a state's bytes, whether it may be or not.
func list(s api.State) string {
	var b strings.Builder
	b.WriteString(number(uint64(len(s.Seen))))
	for _, d := range s.Seen {
		b.WriteString(number(uint64(d.Actor)) + number(d.Count))
	}
	b.WriteString(number(uint64(len(s.Siblings))))
	for _, x := range s.Siblings {
		b.WriteString(number(uint64(x.Dot.Actor)) + number(x.Dot.Count))
		b.WriteString(map[bool]string{false: "\x00", true: "\x01"}[x.Gone])
		b.WriteString(number(uint64(len(x.Value))) + x.Value)
	}
	return b.String()
}

// taking takes numbers and texts from the front of bytes; bad, once they are not of the form.
type taking struct {
	rest string
	bad  bool
}

func (k *taking) bytes(n uint64) string {
	if k.bad = k.bad || n > uint64(len(k.rest)); k.bad {
		return ""
	}
	s := k.rest[:n]
	k.rest = k.rest[n:]
	return s
}

// number takes one of at most most, in its shortest form.
func (k *taking) number(most uint64) uint64 {
	var digits string
	for !k.bad && (digits == "" || digits[len(digits)-1] >= 128) {
		digits += k.bytes(1)
		k.bad = k.bad || len(digits) > 9 // none of them is that great
	}
	var n uint64
	for i := len(digits) - 1; i >= 0; i-- {
		n = n*128 + uint64(digits[i]%128)
	}
	if k.bad = k.bad || number(n) != digits || n > most; k.bad {
		return 0
	}
	return n
}

func (k *taking) dot() api.Dot {
	actor := k.number(math.MaxUint32)
	return api.Dot{Actor: uint32(actor), Count: k.number(math.MaxInt64)}
}

// wantDecode is the state whose bytes they are, and whether there is one.
func wantDecode(b string) (api.State, bool) {
	k := &taking{rest: b}
	var s api.State
	for n := k.number(math.MaxInt64); n > 0 && !k.bad; n-- {
		s.Seen = append(s.Seen, k.dot())
	}
	for n := k.number(math.MaxInt64); n > 0 && !k.bad; n-- {
		x := api.Sibling{Dot: k.dot()}
		mark := k.bytes(1)
		x.Gone = mark == "\x01"
		k.bad = k.bad || mark > "\x01"
		x.Value = k.bytes(k.number(math.MaxInt64))
		s.Siblings = append(s.Siblings, x)
	}
	if k.bad || k.rest != "" || !mayBe(s) {
		return api.State{}, false
	}
	return s, true
}
