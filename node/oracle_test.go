package node_test

import (
	"maps"
	"slices"
	"strings"

	"concord/api"
)

// The oracle: the chapter's words over again, by other means and without wire.

// text is a text of at most 16,383 bytes with its length ahead of it.
func text(s string) string {
	if len(s) < 128 {
		return string([]byte{byte(len(s))}) + s
	}
	return string([]byte{byte(len(s)&127 | 128), byte(len(s) >> 7)}) + s
}

func two(n int) string { return string([]byte{byte(n >> 8), byte(n)}) }

func four(n uint32) string {
	return string([]byte{byte(n >> 24), byte(n >> 16), byte(n >> 8), byte(n)})
}

// body is a node's body, whatever its size.
func body(n api.Node) string {
	var b strings.Builder
	if n.Leaf {
		b.WriteString("\x01" + two(len(n.Cells)))
		for _, c := range n.Cells {
			b.WriteString(text(c.Key) + text(c.Value))
		}
		return b.String()
	}
	b.WriteString("\x02" + two(len(n.Keys)) + four(n.Kids[0]))
	for i, key := range n.Keys {
		b.WriteString(text(key) + four(n.Kids[i+1]))
	}
	return b.String()
}

// wantCheck is what Check should answer.
func wantCheck(n api.Node) api.Errno {
	shape := len(n.Cells) == 0 && len(n.Kids) == len(n.Keys)+1
	if n.Leaf {
		shape = len(n.Keys)+len(n.Kids) == 0
	}
	if !shape || slices.Contains(n.Kids, 0) {
		return api.ErrNode
	}
	keys := slices.Clone(n.Keys)
	for _, c := range n.Cells {
		if len(c.Key+c.Value) > 320 {
			return api.ErrBig
		}
		keys = append(keys, c.Key)
	}
	for _, key := range keys {
		if len(key) < 1 || len(key) > 320 {
			return api.ErrBig
		}
	}
	sorted := slices.Clone(keys)
	slices.Sort(sorted)
	if !slices.Equal(keys, slices.Compact(sorted)) {
		return api.ErrOrder
	}
	if len(body(n)) > 1992 {
		return api.ErrBig
	}
	return api.OK
}

// first is the first of errors that is not OK.
func first(errs ...api.Errno) api.Errno {
	for _, e := range errs {
		if e != api.OK {
			return e
		}
	}
	return api.OK
}

func when(bad bool, e api.Errno) api.Errno {
	if bad {
		return e
	}
	return api.OK
}

// answer is a node that was made, unless it has more bytes than it may.
func answer(n api.Node) (api.Node, api.Errno) {
	if len(body(n)) > 1992 {
		return api.Node{}, api.ErrBig
	}
	return n, api.OK
}

// table is what a leaf holds, as a map.
func table(n api.Node) map[string]string {
	m := map[string]string{}
	for _, c := range n.Cells {
		m[c.Key] = c.Value
	}
	return m
}

// leafFrom is the leaf that holds what a map does.
func leafFrom(m map[string]string) api.Node {
	n := api.Node{Leaf: true}
	for _, key := range slices.Sorted(maps.Keys(m)) {
		n.Cells = append(n.Cells, api.Cell{Key: key, Value: m[key]})
	}
	return n
}

func wantFind(n api.Node, key string) (int, bool) {
	if wantCheck(n) != api.OK || !n.Leaf {
		return 0, false
	}
	below := 0
	for _, c := range n.Cells {
		if strings.Compare(c.Key, key) < 0 {
			below++
		}
	}
	_, has := table(n)[key]
	return below, has
}

func wantKid(n api.Node, key string) int {
	if wantCheck(n) != api.OK || n.Leaf {
		return -1
	}
	place := 0
	for _, k := range n.Keys {
		if strings.Compare(k, key) <= 0 {
			place++
		}
	}
	return place
}

func wantPut(n api.Node, key, value string) (api.Node, api.Errno) {
	if e := first(wantCheck(n), when(!n.Leaf, api.ErrNode), when(key == "", api.ErrArg), when(len(key+value) > 320, api.ErrBig)); e != api.OK {
		return api.Node{}, e
	}
	m := table(n)
	m[key] = value
	return answer(leafFrom(m))
}

func wantTake(n api.Node, key string) (api.Node, bool) {
	m := table(n)
	if _, has := m[key]; !has || !n.Leaf || wantCheck(n) != api.OK {
		return api.Node{}, false
	}
	delete(m, key)
	return leafFrom(m), true
}

// link is a key with the kid behind it.
type link struct {
	key string
	kid uint32
}

// links are a branch's keys, each with the kid behind it.
func links(n api.Node) []link {
	var all []link
	for i, key := range n.Keys {
		all = append(all, link{key, n.Kids[i+1]})
	}
	return all
}

// branchFrom is the branch of a first kid and links, if its keys rise and it has no more bytes than it may.
func branchFrom(kid uint32, all []link) (api.Node, api.Errno) {
	n := api.Node{Kids: []uint32{kid}}
	for i, l := range all {
		if i > 0 && l.key <= all[i-1].key {
			return api.Node{}, api.ErrOrder
		}
		n.Keys, n.Kids = append(n.Keys, l.key), append(n.Kids, l.kid)
	}
	return answer(n)
}

func badKey(key string) bool { return key == "" || len(key) > 320 }

func wantGrow(n api.Node, i int, key string, kid uint32) (api.Node, api.Errno) {
	bad := i < 0 || i > len(n.Keys) || badKey(key) || kid == 0
	if e := first(wantCheck(n), when(n.Leaf, api.ErrNode), when(bad, api.ErrArg)); e != api.OK {
		return api.Node{}, e
	}
	return branchFrom(n.Kids[0], slices.Insert(links(n), i, link{key, kid}))
}

func wantShrink(n api.Node, i int) (api.Node, api.Errno) {
	if e := first(wantCheck(n), when(n.Leaf, api.ErrNode), when(i < 0 || i >= len(n.Keys), api.ErrArg)); e != api.OK {
		return api.Node{}, e
	}
	return branchFrom(n.Kids[0], slices.Delete(links(n), i, i+1))
}

func wantTurn(n api.Node, i int, key string) (api.Node, api.Errno) {
	bad := i < 0 || i >= len(n.Keys) || badKey(key)
	if e := first(wantCheck(n), when(n.Leaf, api.ErrNode), when(bad, api.ErrArg)); e != api.OK {
		return api.Node{}, e
	}
	all := links(n)
	all[i].key = key
	return branchFrom(n.Kids[0], all)
}

// halves are what a node is in two, cut at a place.
func halves(n api.Node, i int) (api.Node, string, api.Node) {
	if n.Leaf {
		return api.Node{Leaf: true, Cells: n.Cells[:i]}, n.Cells[i].Key, api.Node{Leaf: true, Cells: n.Cells[i:]}
	}
	return api.Node{Keys: n.Keys[:i], Kids: n.Kids[:i+1]}, n.Keys[i], api.Node{Keys: n.Keys[i+1:], Kids: n.Kids[i+1:]}
}

func wantSplit(n api.Node) (api.Node, string, api.Node, api.Errno) {
	if e := wantCheck(n); e != api.OK {
		return api.Node{}, "", api.Node{}, e
	}
	best, found := 0, 1<<30
	for i := range max(len(n.Cells), len(n.Keys)) {
		l, _, r := halves(n, i)
		if greater := max(len(body(l)), len(body(r))); greater < found {
			best, found = i, greater
		}
	}
	if len(n.Cells) < 2 && len(n.Keys) < 1 {
		return api.Node{}, "", api.Node{}, api.ErrNode
	}
	l, key, r := halves(n, best)
	return l, key, r, api.OK
}

func wantJoin(l api.Node, key string, r api.Node) (api.Node, api.Errno) {
	if e := first(wantCheck(l), wantCheck(r), when(l.Leaf != r.Leaf, api.ErrNode), when(badKey(key), api.ErrArg)); e != api.OK {
		return api.Node{}, e
	}
	if !l.Leaf {
		return branchFrom(l.Kids[0], slices.Concat(links(l), []link{{key, r.Kids[0]}}, links(r)))
	}
	for _, c := range l.Cells {
		if c.Key >= key {
			return api.Node{}, api.ErrOrder
		}
	}
	for _, c := range r.Cells {
		if c.Key < key {
			return api.Node{}, api.ErrOrder
		}
	}
	return answer(api.Node{Leaf: true, Cells: slices.Concat(l.Cells, r.Cells)})
}

// wantDecode is the node whose body it is, taken byte by byte; false, if there is none.
func wantDecode(s string) (api.Node, bool) {
	at, bad := 0, len(s) > 996
	take := func(n int) string {
		if bad || at+n > len(s) {
			bad = true
			return strings.Repeat("\x00", n)
		}
		at += n
		return s[at-n : at]
	}
	fixed := func(n int) uint32 {
		v := uint32(0)
		for _, b := range []byte(take(n)) {
			v = v<<8 | uint32(b)
		}
		return v
	}
	long := func() string {
		n := int(take(1)[0])
		if n >= 128 {
			more := int(take(1)[0])
			bad = bad || more == 0 || more > 2
			n = n - 128 + more<<7
		}
		if bad || n > 320 {
			bad = true
			return ""
		}
		return take(n)
	}
	n := api.Node{}
	kind, count := fixed(1), fixed(2)
	switch kind {
	case 1:
		n.Leaf = true
		for i := uint32(0); i < count && !bad; i++ {
			key := long()
			n.Cells = append(n.Cells, api.Cell{Key: key, Value: long()})
		}
	case 2:
		n.Kids = append(n.Kids, fixed(4))
		for i := uint32(0); i < count && !bad; i++ {
			n.Keys = append(n.Keys, long())
			n.Kids = append(n.Kids, fixed(4))
		}
	default:
		bad = true
	}
	if bad || at != len(s) || wantCheck(n) != api.OK {
		return api.Node{}, false
	}
	return n, true
}
