package object_test

import (
	"cmp"
	"crypto/sha256"
	"math"
	"slices"
	"strings"

	"concord/api"
)

// The oracle shares nothing with the package or with those below it: it lays down and takes bytes by hand, goes dot by dot where states are joined, and hashes by the library.

// count is an actor's greatest count in a list.
func count(v []api.Dot, actor uint32) uint64 {
	var most uint64
	for _, d := range v {
		if d.Actor == actor {
			most = max(most, d.Count)
		}
	}
	return most
}

func byDot(d, e api.Dot) int {
	return cmp.Or(cmp.Compare(d.Actor, e.Actor), cmp.Compare(d.Count, e.Count))
}

func vectorMayBe(v []api.Dot) bool {
	last := int64(-1)
	for _, d := range v {
		if int64(d.Actor) <= last || d.Count == 0 || d.Count > 1099511627776 {
			return false
		}
		last = int64(d.Actor)
	}
	return len(v) <= 64
}

func stateMayBe(s api.State) bool {
	if !vectorMayBe(s.Seen) || len(s.Siblings) > 64 {
		return false
	}
	for i, x := range s.Siblings {
		if i > 0 && byDot(s.Siblings[i-1].Dot, x.Dot) >= 0 {
			return false
		}
		if x.Dot.Count < 1 || x.Dot.Count > count(s.Seen, x.Dot.Actor) || len(x.Value) > 40 || x.Gone && x.Value != "" {
			return false
		}
	}
	return true
}

// number is a number's bytes to the base 128.
func number(n uint64) string {
	if n < 128 {
		return string([]byte{byte(n)})
	}
	return string([]byte{byte(n%128 + 128)}) + number(n/128)
}

// list is a state's bytes, whether it may be or not.
func list(s api.State) string {
	var b strings.Builder
	b.WriteString(number(uint64(len(s.Seen))))
	for _, d := range s.Seen {
		b.WriteString(number(uint64(d.Actor)) + number(d.Count))
	}
	b.WriteString(number(uint64(len(s.Siblings))))
	for _, x := range s.Siblings {
		b.WriteString(number(uint64(x.Dot.Actor)) + number(x.Dot.Count))
		b.WriteString(map[bool]string{false: "\x00", true: "\x01"}[x.Gone])
		b.WriteString(number(uint64(len(x.Value))) + x.Value)
	}
	return b.String()
}

// wrong is what is wrong with an object.
func wrong(o api.Object) api.Errno {
	switch {
	case o.Key == "" || len(o.Key) > 32:
		return 130
	case !stateMayBe(o.State):
		return 110
	case len(list(o.State)) > 280:
		return 82
	}
	return 0
}

// place are the first three hexadecimal digits of a key's hash.
func place(key string) int {
	sum := sha256.Sum256([]byte("K" + key))
	return int(sum[0]/16)*256 + int(sum[0]%16)*16 + int(sum[1]/16)
}

func wantForm(o api.Object) (string, api.Errno) {
	if e := wrong(o); e != 0 || len(o.State.Seen) == 0 {
		return "", e
	}
	return "O" + number(uint64(len(o.Key))) + o.Key + list(o.State), 0
}

func wantSum(o api.Object, width int) (string, api.Errno) {
	form, e := wantForm(o)
	switch {
	case e != 0:
		return "", e
	case width < 1 || width > 32:
		return "", 1
	case form == "":
		return "", 0
	}
	sum := sha256.Sum256([]byte(form))
	return string(sum[:width]), 0
}

func wantEntry(o api.Object, width int) (api.Entry, api.Errno) {
	sum, e := wantSum(o, width)
	switch {
	case e != 0:
		return api.Entry{}, e
	case sum == "":
		return api.Entry{}, 110
	}
	return api.Entry{Key: o.Key, Sum: sum}, 0
}

// least is the least vector above some, however many dots it has.
func least(vectors ...[]api.Dot) []api.Dot {
	m := map[uint32]uint64{}
	for _, v := range vectors {
		for _, d := range v {
			m[d.Actor] = max(m[d.Actor], d.Count)
		}
	}
	var out []api.Dot
	for actor, count := range m {
		out = append(out, api.Dot{Actor: actor, Count: count})
	}
	slices.SortFunc(out, byDot)
	return out
}

// stored is the object with a state whose dots and siblings are not counted yet.
func stored(key string, s api.State) (api.Object, api.Errno) {
	slices.SortFunc(s.Siblings, func(x, y api.Sibling) int { return byDot(x.Dot, y.Dot) })
	if len(s.Seen) > 64 || len(s.Siblings) > 64 || len(list(s)) > 280 {
		return api.Object{}, 82
	}
	return api.Object{Key: key, State: s}, 0
}

func wantPut(o api.Object, ctx []api.Dot, actor uint32, value string, gone bool) (api.Object, api.Dot, api.Errno) {
	if e := wrong(o); e != 0 {
		return api.Object{}, api.Dot{}, e
	}
	if !vectorMayBe(ctx) {
		return api.Object{}, api.Dot{}, 100
	}
	if len(value) > 40 || gone && value != "" {
		return api.Object{}, api.Dot{}, 131
	}
	d := api.Dot{Actor: actor, Count: count(least(o.State.Seen, ctx), actor) + 1}
	if d.Count > 1099511627776 {
		return api.Object{}, api.Dot{}, 101
	}
	after := api.State{Seen: least(o.State.Seen, ctx, []api.Dot{d}), Siblings: []api.Sibling{{Dot: d, Gone: gone, Value: value}}}
	for _, x := range o.State.Siblings {
		if x.Dot.Count > count(ctx, x.Dot.Actor) {
			after.Siblings = append(after.Siblings, x)
		}
	}
	out, e := stored(o.Key, after)
	if e != 0 {
		return api.Object{}, api.Dot{}, e
	}
	return out, d, 0
}

// content is a sibling's content as a text, in the order of contents.
func content(x api.Sibling) string {
	if x.Gone {
		return ""
	}
	return "=" + x.Value
}

func wantMerge(a, b api.Object) (api.Object, api.Errno) {
	switch {
	case wrong(a) != 0:
		return api.Object{}, wrong(a)
	case wrong(b) != 0:
		return api.Object{}, wrong(b)
	case a.Key != b.Key:
		return api.Object{}, 1
	}
	s := api.State{Seen: least(a.State.Seen, b.State.Seen)}
	for _, x := range slices.Concat(a.State.Siblings, b.State.Siblings) {
		if stays(a.State, x) && stays(b.State, x) && !slices.Contains(s.Siblings, x) {
			s.Siblings = append(s.Siblings, x)
		}
	}
	return stored(a.Key, s)
}

// stays tells whether a state leaves a sibling of a join as it is: it has not seen the dot, or holds it with that content or a greater one.
func stays(s api.State, x api.Sibling) bool {
	for _, y := range s.Siblings {
		if y.Dot == x.Dot {
			return content(x) <= content(y)
		}
	}
	return x.Dot.Count > count(s.Seen, x.Dot.Actor)
}

func wantPack(o api.Object) (api.Cell, api.Errno) {
	if e := wrong(o); e != 0 {
		return api.Cell{}, e
	}
	if len(o.State.Seen) == 0 {
		return api.Cell{}, 110
	}
	n := place(o.Key)
	return api.Cell{Key: string([]byte{byte(n / 256), byte(n % 256)}) + o.Key, Value: list(o.State)}, 0
}

// taking takes numbers and texts from the front of bytes; bad, once they are not of the form.
type taking struct {
	rest string
	bad  bool
}

func (k *taking) bytes(n uint64) string {
	if k.bad = k.bad || n > uint64(len(k.rest)); k.bad {
		return ""
	}
	s := k.rest[:n]
	k.rest = k.rest[n:]
	return s
}

// number takes one of at most most, in its shortest form.
func (k *taking) number(most uint64) uint64 {
	var digits string
	for !k.bad && (digits == "" || digits[len(digits)-1] >= 128) {
		digits += k.bytes(1)
		k.bad = k.bad || len(digits) > 9 // none of them is that great
	}
	var n uint64
	for i := len(digits) - 1; i >= 0; i-- {
		n = n*128 + uint64(digits[i]%128)
	}
	if k.bad = k.bad || number(n) != digits || n > most; k.bad {
		return 0
	}
	return n
}

func (k *taking) dot() api.Dot {
	actor := k.number(math.MaxUint32)
	return api.Dot{Actor: uint32(actor), Count: k.number(math.MaxInt64)}
}

// state takes one that may not be.
func (k *taking) state() api.State {
	var s api.State
	for n := k.number(math.MaxInt64); n > 0 && !k.bad; n-- {
		s.Seen = append(s.Seen, k.dot())
	}
	for n := k.number(math.MaxInt64); n > 0 && !k.bad; n-- {
		x := api.Sibling{Dot: k.dot()}
		mark := k.bytes(1)
		x.Gone = mark == "\x01"
		k.bad = k.bad || mark > "\x01"
		x.Value = k.bytes(k.number(math.MaxInt64))
		s.Siblings = append(s.Siblings, x)
	}
	return s
}

// wantUnpack is the object whose cell it is, and whether there is one.
func wantUnpack(c api.Cell) (api.Object, bool) {
	k := &taking{rest: c.Value}
	s := k.state()
	if k.bad || k.rest != "" || !stateMayBe(s) || len(s.Seen) == 0 || len(c.Value) > 280 {
		return api.Object{}, false
	}
	if len(c.Key) < 3 || len(c.Key) > 34 || int(c.Key[0])*256+int(c.Key[1]) != place(c.Key[2:]) {
		return api.Object{}, false
	}
	return api.Object{Key: c.Key[2:], State: s}, true
}
