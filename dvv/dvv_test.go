package dvv_test

import (
	"math/rand"
	"slices"
	"strings"
	"testing"

	"concord/api"
	"concord/dvv"
)

// wantAsked holds what Valid, Same and Values answer about one state against the oracle.
func wantAsked(t *testing.T, what string, s api.State) {
	t.Helper()
	if got := dvv.Valid(s); got != mayBe(s) {
		t.Errorf("%s: Valid is %v", what, got)
	}
	if !dvv.Same(s, s) || !dvv.Same(s, clone(s)) {
		t.Errorf("%s: it is not the Same as itself", what)
	}
	if got := dvv.Values(s); !slices.Equal(got, wantValues(s)) {
		t.Errorf("%s: Values are %q, want %q", what, got, wantValues(s))
	}
}

// P11.1, P11.5: states at their edges may be.
func TestStates(t *testing.T) {
	for what, s := range states() {
		if !dvv.Valid(s) {
			t.Errorf("%s: it may not be", what)
		}
		wantAsked(t, what, s)
	}
	for _, s := range small([]uint32{0, 9}, 2) {
		if !dvv.Valid(s) {
			t.Errorf("%v: it may not be", s)
		}
		wantAsked(t, "small", s)
	}
}

// P11.1, P11.5: others may not be, and have no values.
func TestNoStates(t *testing.T) {
	for what, s := range none() {
		if dvv.Valid(s) {
			t.Errorf("%s: it may be", what)
		}
		if got := dvv.Values(s); len(got) != 0 {
			t.Errorf("%s: %d values", what, len(got))
		}
		wantAsked(t, what, s)
	}
}

// P11.1: how many siblings, of how many bytes, may be.
func TestHowManyMayBe(t *testing.T) {
	for n := range 140 {
		if got := dvv.Valid(rowState(n, 5, "x")); got != (n <= 64) {
			t.Errorf("Valid of %d siblings is %v", n, got)
		}
		x := api.Sibling{Dot: api.Dot{Actor: 1, Count: 1}, Value: strings.Repeat("\x00", n)}
		if got := dvv.Valid(with("1:1", x)); got != (n <= 40) {
			t.Errorf("Valid of a value of %d bytes is %v", n, got)
		}
		x.Gone = true
		if got := dvv.Valid(with("1:1", x)); got != (n == 0) {
			t.Errorf("Valid of a gone one with %d bytes is %v", n, got)
		}
	}
}

// P11.1: every order of three dots, of like and of unlike actors.
func TestSiblingsThatDoNotRise(t *testing.T) {
	all := dots("1:1 1:2 2:1 2:2")
	for i, d := range all {
		for k, e := range all {
			for l, f := range all {
				s := api.State{Seen: dots("1:2 2:2"), Siblings: []api.Sibling{{Dot: d}, {Dot: e, Gone: true}, {Dot: f, Value: "x"}}}
				if got := dvv.Valid(s); got != (i < k && k < l) {
					t.Errorf("Valid of %v is %v", s, got)
				}
			}
		}
	}
}

// P11.1: each sibling must be covered, by its own actor's dot.
func TestCovered(t *testing.T) {
	for actor := range uint32(5) {
		for _, count := range []uint64{0, 1, 2, 3, 4, end, end + 1, 1 << 63} {
			s := api.State{Seen: dots("1:2 3:3"), Siblings: []api.Sibling{{Dot: api.Dot{Actor: actor, Count: count}}}}
			want := count > 0 && (actor == 1 && count <= 2 || actor == 3 && count <= 3)
			if got := dvv.Valid(s); got != want {
				t.Errorf("Valid of %v is %v", s, got)
			}
		}
	}
}

// P11.1, P11.5: drawn states, of which some may not be.
func TestDrawnStates(t *testing.T) {
	r := rand.New(rand.NewSource(111))
	may := 0
	for range 30000 {
		s := drawnAny(r)
		if mayBe(s) {
			may++
		}
		wantAsked(t, "drawn", s)
		if t.Failed() {
			t.Fatalf("of %v", s)
		}
	}
	if may < 10000 || may > 25000 {
		t.Errorf("%d of the states may be", may)
	}
}

// P11.1: a state in which one field is turned is not the Same, wherever it is; whether they may be or not.
func TestSameFieldByField(t *testing.T) {
	from := state("1:3 2:1; 1:1=x 1:2- 2:1=y")
	for what, turn := range map[string]func(*api.State){
		"a seen actor":        func(s *api.State) { s.Seen[1].Actor++ },
		"a seen count":        func(s *api.State) { s.Seen[0].Count-- },
		"a dot less":          func(s *api.State) { s.Seen = s.Seen[:1] },
		"a dot more":          func(s *api.State) { s.Seen = append(s.Seen, api.Dot{Actor: 3, Count: 1}) },
		"dots turned":         func(s *api.State) { s.Seen[0], s.Seen[1] = s.Seen[1], s.Seen[0] },
		"no dots":             func(s *api.State) { s.Seen = nil },
		"a sibling's actor":   func(s *api.State) { s.Siblings[2].Dot.Actor = 7 },
		"a sibling's count":   func(s *api.State) { s.Siblings[1].Dot.Count = 3 },
		"a sibling gone":      func(s *api.State) { s.Siblings[2].Gone = true },
		"a sibling there":     func(s *api.State) { s.Siblings[1].Gone = false },
		"a value":             func(s *api.State) { s.Siblings[0].Value = "z" },
		"a longer value":      func(s *api.State) { s.Siblings[0].Value = "x\x00" },
		"a gone one's value":  func(s *api.State) { s.Siblings[1].Value = "x" },
		"a sibling less":      func(s *api.State) { s.Siblings = s.Siblings[:2] },
		"the first one less":  func(s *api.State) { s.Siblings = s.Siblings[1:] },
		"a sibling more":      func(s *api.State) { s.Siblings = append(s.Siblings, api.Sibling{}) },
		"siblings turned":     func(s *api.State) { s.Siblings[0], s.Siblings[1] = s.Siblings[1], s.Siblings[0] },
		"no siblings":         func(s *api.State) { s.Siblings = nil },
		"nothing":             func(s *api.State) { *s = api.State{} },
		"dots of noughts":     func(s *api.State) { clear(s.Seen) },
		"siblings of noughts": func(s *api.State) { clear(s.Siblings) },
	} {
		to := clone(from)
		turn(&to)
		if dvv.Same(from, to) || dvv.Same(to, from) {
			t.Errorf("%s: they are the Same", what)
		}
		if !dvv.Same(to, clone(to)) {
			t.Errorf("%s: it is not the Same as its copy", what)
		}
	}
}

// P11.1: nil and empty lists are the same.
func TestSameEmpty(t *testing.T) {
	for _, a := range [][]api.Dot{nil, {}, make([]api.Dot, 0, 5)} {
		for _, b := range [][]api.Sibling{nil, {}, make([]api.Sibling, 0, 5)} {
			s := api.State{Seen: a, Siblings: b}
			if !dvv.Same(s, api.State{}) || !dvv.Same(api.State{}, s) || !dvv.Valid(s) {
				t.Errorf("%#v is not absent", s)
			}
			x := api.State{Seen: a, Siblings: row(2, 1, 1, "x")}
			if !dvv.Same(x, api.State{Siblings: row(2, 1, 1, "x")}) || dvv.Same(x, s) {
				t.Errorf("%#v: siblings that nobody has seen", x)
			}
			y := api.State{Seen: dots("1:1"), Siblings: b}
			if !dvv.Same(y, state("1:1;")) || dvv.Same(y, s) {
				t.Errorf("%#v: a state without siblings", y)
			}
		}
	}
}

// P11.1: of two small states just the same ones are the Same.
func TestSameOfSmall(t *testing.T) {
	all := small([]uint32{1, 2}, 2)
	for i, a := range all {
		for k, b := range all {
			if dvv.Same(a, clone(b)) != (i == k) {
				t.Fatalf("Same(%v, %v) is %v", a, b, i != k)
			}
		}
	}
}

// P11.5: values stand by their bytes, each once, the empty one too; what is gone has none.
func TestValues(t *testing.T) {
	for _, c := range []struct{ values, want []string }{
		{[]string{"b", "a", "b", "a"}, []string{"a", "b"}},
		{[]string{"", "", "a"}, []string{"", "a"}},
		{[]string{"-", ""}, []string{""}},
		{[]string{"-", "-"}, nil},
		{[]string{"b", "-", "a"}, []string{"a", "b"}},
		{[]string{"\xff", "\x80", "\x00", "z"}, []string{"\x00", "z", "\x80", "\xff"}},
		{[]string{"ab", "a", "b", "aa"}, []string{"a", "aa", "ab", "b"}},
		{[]string{"10", "9", "1"}, []string{"1", "10", "9"}},
	} {
		s := api.State{Seen: []api.Dot{{Actor: 1, Count: uint64(len(c.values))}}}
		for i, value := range c.values {
			x := api.Sibling{Dot: api.Dot{Actor: 1, Count: uint64(i + 1)}, Gone: value == "-", Value: strings.TrimPrefix(value, "-")}
			s.Siblings = append(s.Siblings, x)
		}
		if got := dvv.Values(s); !slices.Equal(got, c.want) {
			t.Errorf("Values of %v: %q, want %q", s, got, c.want)
		}
	}
}

// R3: what Values answers is new memory.
func TestValuesAnew(t *testing.T) {
	s := state("1:4; 1:1=c 1:2=a 1:3=c 1:4=b")
	was := clone(s)
	got := dvv.Values(s)
	got = got[:cap(got)]
	for i := range got {
		got[i] = "scribbled"
	}
	if !same(s, was) || !slices.Equal(dvv.Values(s), []string{"a", "b", "c"}) {
		t.Errorf("behind the scribbling: %v, %q", s, dvv.Values(s))
	}
}

// R3: no call changes what is handed in, nor the room behind its end.
func TestNothingIsChanged(t *testing.T) {
	for _, m := range []map[string]api.State{states(), none()} {
		for what, s := range m {
			if len(s.Siblings) > 1000 {
				continue
			}
			a, b := roomy(s), roomy(state("1:3 2:2 5:1; 1:2=x 2:1- 5:1=y"))
			wasA, wasB := clone(whole(a)), clone(whole(b))
			dvv.Valid(a)
			dvv.Same(a, b)
			dvv.Values(a)
			dvv.Encode(a)
			for _, c := range [][2]api.State{{a, b}, {b, a}, {a, a}} {
				dvv.Join(c[0], c[1])
				dvv.Below(c[0], c[1])
				dvv.Put(c[0], c[1].Seen, 2, "v", false)
				dvv.Put(c[0], nil, 0, "", true)
				dvv.Put(c[0], c[1].Seen[:len(c[1].Seen)/2], 9, "", true)
			}
			if !same(whole(a), wasA) || !same(whole(b), wasB) {
				t.Errorf("%s: the states were changed", what)
			}
		}
	}
}
