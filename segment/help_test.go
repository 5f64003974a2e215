package segment_test

import (
	"fmt"
	"math"
	"math/rand"
	"slices"
	"strings"

	"concord/api"
)

// list is one out of a text like "a:x b:y".
func list(text string) []api.Entry {
	var l []api.Entry
	for _, f := range strings.Fields(text) {
		key, sum, _ := strings.Cut(f, ":")
		l = append(l, api.Entry{Key: key, Sum: sum})
	}
	return l
}

// many is n entries, with sums of a width; keys have four bytes.
func many(n, width int) []api.Entry {
	var l []api.Entry
	for i := range n {
		l = append(l, api.Entry{Key: fmt.Sprintf("%04x", i), Sum: strings.Repeat(string([]byte{byte(i)}), width)})
	}
	return l
}

// keys are some that may be, at their edges.
func keys() []string {
	return []string{"a", "b", "\x00", "\xff", "K", "S", "ab", "a\x00", "\x80\x81", strings.Repeat("k", 31), strings.Repeat("k", 32), strings.Repeat("\xff", 32), strings.Repeat("\x00", 32)}
}

// noKeys are texts that are none.
func noKeys() []string {
	return []string{"", strings.Repeat("k", 33), strings.Repeat("\x00", 33), strings.Repeat("\xff", 64), strings.Repeat("k", 1_000_000)}
}

// segments are some, at the edges; noSegments are numbers that are none.
func segments() []int { return []int{0, 1, 5, 127, 128, 255, 256, 2005, 4094, 4095} }

func noSegments() []int {
	return []int{-1, 4096, 4097, -4095, -4096, 65535, 65536, 65541, -65531, 1<<32 + 5, math.MaxInt, math.MinInt}
}

// noWidths are numbers that are no width.
func noWidths() []int { return []int{0, -1, 33, 34, 257, 65537, -31, math.MaxInt, math.MinInt} }

// lists are some, at their edges.
func lists() [][]api.Entry {
	all := [][]api.Entry{nil, {}, many(63, 1), many(64, 2), many(65, 1), many(127, 3), many(128, 3), many(129, 32), many(300, 1)}
	for _, width := range []int{1, 2, 8, 31, 32} {
		for _, text := range []string{"x", "\x00", "\xff"} {
			sum := strings.Repeat(text, width)
			var l []api.Entry
			for _, key := range keys() {
				l = append(l, api.Entry{Key: key, Sum: sum})
				all = append(all, []api.Entry{{Key: key, Sum: sum}})
			}
			slices.SortFunc(l, byKey)
			all = append(all, l)
		}
	}
	for _, text := range []string{"a:x", "a:x b:y", "a:x b:x", "a:y b:x", "a:x ab:y b:z", "a:xx b:yy", "b:y", "a:x c:z"} {
		all = append(all, list(text))
	}
	return all
}

// noLists are entries that are a list of no width.
func noLists() [][]api.Entry {
	all := [][]api.Entry{
		list("b:y a:x"), list("a:x a:x"), list("a:x a:y"), list("a:x b:yy"), list("a:xx b:y"), list("a:x b:y b:y"), list("a:x c:y b:z"),
		list("a:"), list("a: b:"), list("a:x b:"), list("a: b:x"), list("ab:x a:y"), list("\xff:x a:y"), list("a:x b:y c:zz"), list("a:x b:x c:x a:x"),
		{{Key: "a\x00", Sum: "x"}, {Key: "a", Sum: "y"}},
		{{Key: "a", Sum: strings.Repeat("x", 33)}}, {{Key: "a", Sum: strings.Repeat("x", 33)}, {Key: "b", Sum: strings.Repeat("x", 33)}},
		{{Key: "a", Sum: strings.Repeat("x", 1_000_000)}},
		make([]api.Entry, 1), make([]api.Entry, 100_000),
	}
	for _, key := range noKeys() {
		all = append(all, []api.Entry{{Key: key, Sum: "x"}})
		two := []api.Entry{{Key: key, Sum: "x"}, {Key: "j", Sum: "y"}}
		slices.SortFunc(two, byKey)
		all = append(all, two)
	}
	broken := many(1000, 4)
	broken[999].Sum = "x"
	last := many(1000, 4)
	last[998], last[999] = last[999], last[998]
	return append(all, broken, last)
}

// small are all lists of one width whose keys are among three, of which one begins another one, and whose sums are among some.
func small(sums ...string) [][]api.Entry {
	all := [][]api.Entry{nil}
	for _, key := range []string{"a", "ab", "b"} {
		for _, l := range slices.Clone(all) {
			for _, sum := range sums {
				all = append(all, append(slices.Clone(l), api.Entry{Key: key, Sum: sum}))
			}
		}
	}
	return all
}

// drawnList is a list of that width of up to most entries; its keys and sums are few, so that two that are drawn often have some in common.
func drawnList(r *rand.Rand, width, most int) []api.Entry {
	sums := map[string]string{}
	for range r.Intn(most + 1) {
		sums[drawnKey(r)] = strings.Repeat(string([]byte{"xy\x00"[r.Intn(3)]}), width)
	}
	var l []api.Entry
	for key, sum := range sums {
		l = append(l, api.Entry{Key: key, Sum: sum})
	}
	slices.SortFunc(l, byKey)
	return l
}

func drawnKey(r *rand.Rand) string {
	if r.Intn(20) == 0 {
		b := make([]byte, 1+r.Intn(32))
		r.Read(b)
		return string(b)
	}
	return string([]byte{"ab\x00\xff"[r.Intn(4)], "cd\x00\xff"[r.Intn(4)], "ef"[r.Intn(2)]}[:1+r.Intn(3)])
}

// drawn are entries that mostly are a list.
func drawn(r *rand.Rand, width, most int) []api.Entry {
	l := drawnList(r, width, most)
	if len(l) == 0 || r.Intn(4) > 0 {
		return l
	}
	i, j := r.Intn(len(l)), r.Intn(len(l))
	switch r.Intn(6) {
	case 0:
		l[i], l[j] = l[j], l[i]
	case 1:
		l[i].Key = l[j].Key
	case 2:
		l[i].Sum += "x"
	case 3:
		l[i].Sum = l[i].Sum[1:]
	case 4:
		l[i].Key = ""
	case 5:
		l[i].Key += strings.Repeat("k", 32)
	}
	return l
}

// roomy are the same entries with marked room behind their end.
func roomy(l []api.Entry) []api.Entry {
	out := slices.Clone(l)
	for range 70 {
		out = append(out, api.Entry{Key: "room", Sum: "room"})
	}
	return out[:len(l)]
}

// whole are entries with what stands in the room behind their end.
func whole[T any](l []T) []T { return l[:cap(l)] }

// scribble writes over entries, and over the room behind their end.
func scribble(l []api.Entry) {
	for i := range whole(l) {
		whole(l)[i] = api.Entry{Key: "scribbled", Sum: "scribbled"}
	}
}
