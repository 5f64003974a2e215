package segment_test

import (
	"math/rand"
	"slices"
	"testing"

	"concord/segment"
)

// card is of another kind than the numbers that it is merged with.
type card struct {
	title string
	n     int
}

func cards(l []int) []card {
	var out []card
	for _, n := range l {
		out = append(out, card{name(n), n})
	}
	return out
}

func title(c card) string { return c.title }

// merged are Merge's calls of a list of numbers and one of cards.
func merged(a, b []int) []call {
	var got []call
	segment.Merge(a, cards(b), name, title, func(key string, x *int, y *card) {
		c := call{key, -1, -1}
		if x != nil {
			c.x = *x
		}
		if y != nil {
			c.y = y.n
		}
		got = append(got, c)
	})
	return got
}

// rows are all lists of up to most numbers below bound, rising or not.
func rows(most, bound int) [][]int {
	all := [][]int{nil}
	for i := 0; i < len(all); i++ {
		if len(all[i]) == most {
			break
		}
		for n := range bound {
			all = append(all, append(slices.Clone(all[i]), n))
		}
	}
	return all
}

// P14.7: all short lists two by two, those that do not rise and those with like keys too.
func TestMergeOfAll(t *testing.T) {
	all := rows(3, 6)
	for _, a := range all {
		for _, b := range all {
			if got, want := merged(a, b), wantMerge(a, b); !slices.Equal(got, want) {
				t.Fatalf("Merge(%v, %v): %v, want %v", a, b, got, want)
			}
		}
	}
}

// P14.7: some merges, told one by one: the numbers 0 and 1 have the empty key, 2 and 3 the key k, and so on.
func TestMerge(t *testing.T) {
	for _, c := range []struct {
		a, b []int
		want []call
	}{
		{nil, nil, nil},
		{[]int{2}, nil, []call{{"k", 2, -1}}},
		{nil, []int{3}, []call{{"k", -1, 3}}},
		{[]int{2}, []int{3}, []call{{"k", 2, 3}}},
		{[]int{0}, []int{1, 1}, []call{{"", 0, 1}, {"", -1, 1}}},
		{[]int{4, 2}, []int{3, 5}, []call{{"k", -1, 3}, {"kk", 4, 5}, {"k", 2, -1}}},
		{[]int{2, 2, 2}, []int{2, 2}, []call{{"k", 2, 2}, {"k", 2, 2}, {"k", 2, -1}}},
		{[]int{6, 0}, []int{2, 4}, []call{{"k", -1, 2}, {"kk", -1, 4}, {"kkk", 6, -1}, {"", 0, -1}}},
	} {
		if got := merged(c.a, c.b); !slices.Equal(got, c.want) {
			t.Errorf("Merge(%v, %v): %v, want %v", c.a, c.b, got, c.want)
		}
	}
}

// P14.7: drawn lists, mostly rising, and long.
func TestDrawnMerges(t *testing.T) {
	r := rand.New(rand.NewSource(147))
	for range 3000 {
		a, b := drawnRow(r), drawnRow(r)
		if got, want := merged(a, b), wantMerge(a, b); !slices.Equal(got, want) {
			t.Fatalf("Merge(%v, %v): %v, want %v", a, b, got, want)
		}
	}
}

func drawnRow(r *rand.Rand) []int {
	l := make([]int, r.Intn(30))
	for i := range l {
		l[i] = r.Intn(60)
	}
	if r.Intn(4) > 0 {
		slices.Sort(l)
	}
	return l
}

// P14.7: keys are held against one another byte by byte, as they come out of left and right.
func TestMergeByBytes(t *testing.T) {
	keys := []string{"", "\x00", "\x00\x00", "a", "a\x00", "aa", "b", "\x7f", "\x80", "\xff", "\xff\xff"}
	itself := func(s string) string { return s }
	var got []string
	segment.Merge(keys, keys, itself, itself, func(key string, x, y *string) {
		if x == nil || y == nil || *x != key || *y != key {
			t.Errorf("%q: one side alone", key)
		}
		got = append(got, key)
	})
	if !slices.Equal(got, keys) {
		t.Errorf("%q", got)
	}
	for i, low := range keys {
		for _, high := range keys[i+1:] {
			got = nil
			note := func(key string, x, y *string) { got = append(got, key) }
			segment.Merge([]string{low}, []string{high}, itself, itself, note)
			segment.Merge([]string{high}, []string{low}, itself, itself, note)
			if !slices.Equal(got, []string{low, high, low, high}) {
				t.Errorf("%q and %q: %q", low, high, got)
			}
		}
	}
}

// P14.7: the key is what left or right says, whatever the element is; the two sides may go by unlike rules.
func TestMergeByTwoRules(t *testing.T) {
	var got []call
	segment.Merge([]int{5, 4}, []int{5, 4}, func(n int) string { return string(rune('z' - n)) }, func(n int) string { return name(n) }, func(key string, x, y *int) {
		c := call{key, -1, -1}
		if x != nil {
			c.x = *x
		}
		if y != nil {
			c.y = *y
		}
		got = append(got, c)
	})
	if !slices.Equal(got, []call{{"kk", -1, 5}, {"kk", -1, 4}, {"u", 5, -1}, {"v", 4, -1}}) {
		t.Errorf("%v", got)
	}
}

// P14.7: nothing is done without left, right or each: none of the others is called, either.
func TestMergeWithoutAFunction(t *testing.T) {
	calls := 0
	key := func(n int) string { calls++; return name(n) }
	each := func(string, *int, *int) { calls++ }
	for _, l := range [][]int{nil, {1}, {1, 2, 3}} {
		segment.Merge(l, l, nil, key, each)
		segment.Merge(l, l, key, nil, each)
		segment.Merge(l, l, key, key, nil)
		segment.Merge(l, nil, key, nil, each)
		segment.Merge(nil, l, nil, key, each)
		segment.Merge[int, int](l, l, nil, nil, nil)
	}
	if calls != 0 {
		t.Errorf("%d calls", calls)
	}
}

// P14.7: what each writes there, at once or behind the end, changes nothing in the lists, in what is merged behind it, or in another copy.
func TestMergeHandsCopies(t *testing.T) {
	for _, rising := range [][2][]int{{{0, 2, 4, 6}, {2, 4, 5, 8}}, {{0, 0, 0}, {0}}, {{2}, {2, 2, 2}}, {{0, 2}, {4, 6}}, {{4, 6}, {0, 2}}, {{1, 2, 3}, nil}, {nil, {1, 2, 3}}} {
		a, b := slices.Clone(rising[0]), slices.Clone(rising[1])
		kept := map[*int]int{}
		var got []call
		segment.Merge(a, b, name, name, func(key string, x, y *int) {
			c := call{key, -1, -1}
			if x != nil {
				c.x = *x
				*x = 1000 + len(got)
				kept[x] = *x
			}
			if y != nil {
				c.y = *y
				*y = 2000 + len(got)
				kept[y] = *y
			}
			got = append(got, c)
		})
		if !slices.Equal(a, rising[0]) || !slices.Equal(b, rising[1]) || !slices.Equal(got, wantMerge(a, b)) {
			t.Errorf("%v, %v became %v, %v; calls %v", rising[0], rising[1], a, b, got)
		}
		if len(kept) != len(a)+len(b) {
			t.Errorf("%v, %v: %d copies", a, b, len(kept))
		}
		for at, n := range kept {
			if *at != n {
				t.Errorf("%v, %v: a copy was written to behind its call", a, b)
			}
		}
	}
}

// P14.7: of one list with itself each side has a copy of its own.
func TestMergeOfOneList(t *testing.T) {
	l := []int{0, 2, 4}
	segment.Merge(l, l, name, name, func(_ string, x, y *int) {
		*x = 77
		if *y == 77 {
			t.Error("both sides have one copy")
		}
	})
	if !slices.Equal(l, []int{0, 2, 4}) {
		t.Errorf("%v", l)
	}
}

// P14.7: long lists come to their end.
func TestMergeOfMany(t *testing.T) {
	entries := 0
	l := many(60000, 1)
	segment.Merge(l, l[1:], func(e entry) string { return e.Key }, func(e entry) string { return e.Key }, func(_ string, x, y *entry) {
		if x == nil || y == nil {
			entries += 100_000
		}
		entries++
	})
	if entries != 160_000 {
		t.Errorf("%d", entries)
	}
}
