package tree_test

import (
	"crypto/sha256"
	"fmt"
	"math/rand"
	"slices"
	"strings"
	"sync"
	"testing"

	"concord/api"
	"concord/tree"
)

type entry = api.Entry

// list is one out of a text like "a:x b:y".
func list(text string) []entry {
	var l []entry
	for _, f := range strings.Fields(text) {
		key, sum, _ := strings.Cut(f, ":")
		l = append(l, entry{Key: key, Sum: sum})
	}
	return l
}

func byKey(a, b entry) int { return strings.Compare(a.Key, b.Key) }

// built is the tree of entries that may be.
func built(t *testing.T, width int, l []entry) *tree.Tree {
	t.Helper()
	u, e := tree.Build(width, l)
	if u == nil || e != api.OK {
		t.Fatalf("Build(%d, %.200q): %v, %v", width, l, u, e)
	}
	return u
}

// laid is a tree with other entries in a segment, where they may be.
func laid(t *testing.T, u *tree.Tree, n int, l []entry) *tree.Tree {
	t.Helper()
	v, e := u.With(n, l)
	if v == nil || e != api.OK {
		t.Fatalf("With(%d, %.200q): %v, %v", n, l, v, e)
	}
	return v
}

// sumAt is a node's sum, of a node that there is.
func sumAt(t *testing.T, u *tree.Tree, node uint16) string {
	t.Helper()
	s, e := u.Sum(node)
	if e != api.OK {
		t.Fatalf("Sum(%d): %v", node, e)
	}
	return s
}

// homes are keys by their segments, rising in each: some four a segment, so that lists of several entries can be made.
var homes = sync.OnceValue(func() *[4096][]string {
	var all [4096][]string
	for i := range 20000 {
		key := fmt.Sprintf("%04x", i)
		all[segmentOf(key)] = append(all[segmentOf(key)], key)
	}
	return &all
})

// text is some bytes that hang on a word alone.
func text(width int, word string) string {
	sum := sha256.Sum256([]byte(word))
	return string(sum[:width])
}

// many is n entries, dealt to segments as their keys are.
func many(n, width int) []entry {
	var l []entry
	for i := range n {
		key := fmt.Sprintf("%06x", i)
		l = append(l, entry{Key: key, Sum: text(width, key)})
	}
	return l
}

// ofSegments is a list of width with all the known keys of some segments.
func ofSegments(width int, segments ...int) []entry {
	var l []entry
	for _, n := range segments {
		for _, key := range homes()[n] {
			l = append(l, entry{Key: key, Sum: text(width, key)})
		}
	}
	slices.SortFunc(l, byKey)
	return l
}

// drawnOf is a list of the segment's keys, of which some may miss; sums are few, so that two lists often have some in common.
func drawnOf(r *rand.Rand, width, n int) []entry {
	var l []entry
	for _, key := range homes()[n] {
		if r.Intn(3) > 0 {
			l = append(l, entry{Key: key, Sum: text(width, string(rune('a'+r.Intn(40))))})
		}
	}
	return l
}

// drawn is a list of the keys of up to most segments, some of which are beside one another.
func drawn(r *rand.Rand, width, most int) []entry {
	picked := map[int]bool{}
	for range r.Intn(most + 1) {
		n := r.Intn(4096)
		switch r.Intn(3) {
		case 0:
			n = 512 + n%16
		case 1:
			n %= 256
		}
		picked[n] = true
	}
	var l []entry
	for n := range 4096 {
		if picked[n] {
			l = append(l, drawnOf(r, width, n)...)
		}
	}
	slices.SortFunc(l, byKey)
	return l
}

// lists are some of a width, at their edges.
func lists(width int) [][]entry {
	x := strings.Repeat("x", width)
	edges := []entry{{Key: "\x00", Sum: x}, {Key: strings.Repeat("\x00", 32), Sum: strings.Repeat("\x00", width)}, {Key: "a", Sum: x},
		{Key: "a\x00", Sum: x}, {Key: "ab", Sum: x}, {Key: strings.Repeat("k", 32), Sum: x}, {Key: "\xff", Sum: strings.Repeat("\xff", width)}, {Key: strings.Repeat("\xff", 32), Sum: x}}
	all := [][]entry{nil, {}, edges, many(1, width), many(300, width), many(20000, width),
		ofSegments(width, 0), ofSegments(width, 4095), ofSegments(width, 0, 4095), ofSegments(width, 15, 16), ofSegments(width, 255, 256), ofSegments(width, 2005)}
	for _, e := range edges {
		all = append(all, []entry{e})
	}
	var sixteen []int
	for i := range 16 {
		sixteen = append(sixteen, 2000+i)
	}
	return append(all, ofSegments(width, sixteen...))
}

// noLists are entries that may not be, whatever the width.
func noLists() [][]entry {
	all := [][]entry{
		list("a:x a:y"), list("b:x a:y"), list("a:x a:x"), list("a:x b:yy"), list("a:xx b:y"), list("ab:x a:y"), list("a:"), list("a:x b:"),
		{{Key: "a", Sum: strings.Repeat("x", 33)}}, {{Key: "", Sum: "x"}}, {{Key: strings.Repeat("k", 33), Sum: "x"}}, {{Key: strings.Repeat("k", 100000), Sum: "x"}},
		make([]entry, 1), make([]entry, 100000),
	}
	broken := many(5000, 1)
	broken[4999].Sum = "xx"
	turned := many(5000, 1)
	turned[4998], turned[4999] = turned[4999], turned[4998]
	return append(all, broken, turned)
}

// roomy are the same entries with marked room behind their end.
func roomy(l []entry) []entry {
	out := slices.Clone(l)
	for range 40 {
		out = append(out, entry{Key: "room", Sum: "room"})
	}
	return out[:len(l)]
}

// whole are things with what stands in the room behind their end.
func whole[T any](l []T) []T { return l[:cap(l)] }

// scribble writes over a list, and over the room behind its end.
func scribble[T any](l []T, over T) {
	for i := range whole(l) {
		whole(l)[i] = over
	}
}
