package dvv_test

import (
	"math/rand"
	"strings"
	"testing"

	"concord/api"
	"concord/dvv"
)

// wantTwo holds what Join and Below answer about two states, either one first, against the oracle.
func wantTwo(t *testing.T, what string, a, b api.State) {
	t.Helper()
	for range 2 {
		s, e := wantJoin(a, b)
		if got, f := dvv.Join(a, b); f != e || !same(got, s) {
			t.Errorf("%s: Join(%v, %v) is %v, %v, want %v, %v", what, a, b, got, f, s, e)
		}
		if got := dvv.Below(a, b); got != wantBelow(a, b) {
			t.Errorf("%s: Below(%v, %v) is %v", what, a, b, got)
		}
		a, b = b, a
	}
}

// P11.2, P11.3: every two of the states at their edges.
func TestTwoStates(t *testing.T) {
	for what, a := range states() {
		for and, b := range states() {
			wantTwo(t, what+" with "+and, a, b)
		}
	}
}

// P11.2, P11.3: every two of the small states.
func TestTwoSmall(t *testing.T) {
	all := small([]uint32{1, 2}, 2)
	for _, a := range all {
		for _, b := range all {
			wantTwo(t, "small", a, b)
		}
		if t.Failed() {
			t.FailNow()
		}
	}
}

// P11.2: of two contents of one dot the lesser one stays.
func TestLesserContent(t *testing.T) {
	rising := []string{"-", "", "\x00", "\x00\x00", "a", "a\x00", "aa", "ab", "b", "\x7f", "\x80", "\xff", "\xff\xff"}
	rising = append(rising[:8:8], append([]string{strings.Repeat("b", 39), strings.Repeat("b", 40)}, rising[9:]...)...)
	of := func(c string) api.State {
		if c == "-" {
			return state("1:1; 1:1-")
		}
		return with("1:1", api.Sibling{Dot: api.Dot{Actor: 1, Count: 1}, Value: c})
	}
	for i, x := range rising {
		for k, y := range rising {
			if s, e := dvv.Join(of(x), of(y)); !same(s, of(rising[min(i, k)])) || e != api.OK {
				t.Errorf("Join of %q and %q: %v, %v", x, y, s, e)
			}
			if got := dvv.Below(of(x), of(y)); got != (k <= i) {
				t.Errorf("Below of %q and %q is %v", x, y, got)
			}
		}
	}
}

// P11.2: what a state has seen and does not hold is over, though the other one holds it; what it has not seen stays.
func TestOverAndUnseen(t *testing.T) {
	for _, c := range []struct{ a, b, want string }{
		{"", "", ""},
		{"1:1; 1:1=x", "", "1:1; 1:1=x"},
		{"1:2; 1:1=x 1:2=y", "1:1;", "1:2; 1:2=y"},
		{"1:2; 1:1=x 1:2=y", "1:2;", "1:2;"},
		{"1:2; 1:1=x 1:2=y", "1:2; 1:2=y", "1:2; 1:2=y"},
		{"1:2; 1:1=x 1:2=y", "1:2; 1:1=x", "1:2; 1:1=x"},
		{"1:2; 1:1=x", "1:2; 1:2=y", "1:2;"},
		{"1:3; 1:3=x", "1:2; 1:1=a 1:2=b", "1:3; 1:3=x"},
		{"1:1 2:1; 1:1=x", "2:2; 2:1=y 2:2=z", "1:1 2:2; 1:1=x 2:2=z"},
		{"1:1; 1:1=x", "2:1; 2:1-", "1:1 2:1; 1:1=x 2:1-"},
		{"2:1; 2:1=x", "1:1 3:1; 1:1=a 3:1=c", "1:1 2:1 3:1; 1:1=a 2:1=x 3:1=c"},
		{"1:1 2:1 3:1; 1:1=a 3:1=c", "2:1; 2:1=x", "1:1 2:1 3:1; 1:1=a 3:1=c"},
		{"1:5; 1:2=x 1:4=y", "1:3; 1:1=a 1:2=x 1:3=b", "1:5; 1:2=x 1:4=y"},
		{"1:1 2:1; 1:1=a 2:1=b", "1:1 2:1; 1:1=b 2:1-", "1:1 2:1; 1:1=a 2:1-"},
	} {
		for _, p := range [][2]string{{c.a, c.b}, {c.b, c.a}} {
			if s, e := dvv.Join(state(p[0]), state(p[1])); !same(s, state(c.want)) || e != api.OK {
				t.Errorf("Join(%s, %s): %v, %v, want %s", p[0], p[1], s, e, c.want)
			}
			if !dvv.Below(state(p[0]), state(c.want)) {
				t.Errorf("%s is not below %s", p[0], c.want)
			}
		}
	}
}

// P11.3: a state is below just those that say of each dot what it says, or what is later.
func TestBelow(t *testing.T) {
	for _, c := range []struct {
		a, b     string
		up, down bool
	}{
		{"", "", true, true},
		{"", "1:1;", true, false},
		{"", "1:1; 1:1=x", true, false},
		{"1:1; 1:1=x", "1:1;", true, false},
		{"1:1; 1:1=x", "1:1; 1:1=x", true, true},
		{"1:1; 1:1=x", "1:2; 1:1=x", true, false},
		{"1:1; 1:1=x", "1:2; 1:1=x 1:2=y", true, false},
		{"1:1; 1:1=x", "1:2; 1:2=y", true, false},
		{"1:1; 1:1=b", "1:2; 1:1=a 1:2=y", true, false},
		{"1:1; 1:1=a", "1:2; 1:1=b 1:2=y", false, false},
		{"1:1;", "1:2; 1:1=b 1:2=y", false, false},
		{"1:1;", "1:2; 1:2=y", true, false},
		{"1:2; 1:1=x", "1:2; 1:2=x", false, false},
		{"1:1; 1:1=b", "1:1; 1:1-", true, false},
		{"1:1 2:1; 1:1=x", "1:1; 1:1=x", false, true},
		{"1:1; 1:1=x", "2:1; 2:1=x", false, false},
	} {
		if got := dvv.Below(state(c.a), state(c.b)); got != c.up {
			t.Errorf("Below(%s, %s) is %v", c.a, c.b, got)
		}
		if got := dvv.Below(state(c.b), state(c.a)); got != c.down {
			t.Errorf("Below(%s, %s) is %v", c.b, c.a, got)
		}
	}
}

// P11.2, P11.3: where one may not be there is no join, and none is below, not even itself; ErrState goes ahead of ErrBig.
func TestTwoOfWhichOneMayNotBe(t *testing.T) {
	for what, a := range none() {
		for _, b := range []api.State{a, {}, state("1:1; 1:1=x"), state("1:1099511627776;"), wide(64, 100, "x"), state("1:1; 1:2=x")} {
			for range 2 {
				if s, e := dvv.Join(a, b); !isZero(s) || e != api.ErrState {
					t.Errorf("%s: Join is %v, %v", what, s, e)
				}
				if dvv.Below(a, b) {
					t.Errorf("%s: Below is true", what)
				}
				a, b = b, a
			}
		}
	}
}

// P11.2: a join of 64 siblings is one, one of 65 is too great, though few dots were seen; Below of such two is false.
func TestJoinAboutTheSiblingsBound(t *testing.T) {
	for n := range 65 {
		for _, more := range []int{62 - n, 63 - n, 64 - n, 65 - n, 66 - n, 64} {
			if more < 0 || more > 64 {
				continue
			}
			a, b := rowState(n, 1, "x"), rowState(more, 2, "y")
			s, e := dvv.Join(a, b)
			if n+more <= 64 && (e != api.OK || len(s.Siblings) != n+more) {
				t.Errorf("%d and %d: %d siblings, %v", n, more, len(s.Siblings), e)
			}
			if n+more > 64 && (e != api.ErrBig || !isZero(s) || dvv.Below(a, b) || dvv.Below(b, a)) {
				t.Errorf("%d and %d: %v, %v", n, more, s, e)
			}
			wantTwo(t, "two rows", a, b)
		}
	}
}

// P11.2: what is over does not count.
func TestJoinOfManyThatAreOver(t *testing.T) {
	a, b := rowState(64, 1, "x"), rowState(64, 2, "y")
	b.Seen = append(dots("1:64"), b.Seen...)
	if s, e := dvv.Join(a, b); e != api.OK || !same(s, b) {
		t.Errorf("Join: %v, %v", s, e)
	}
	if !dvv.Below(a, b) || dvv.Below(b, a) {
		t.Error("Below")
	}
	b.Seen[0].Count = 63
	if s, e := dvv.Join(a, b); e != api.ErrBig || !isZero(s) {
		t.Errorf("Join with one more: %v, %v", s, e)
	}
	wantTwo(t, "over", a, b)
}

// P11.2: a join of 64 seen dots is one, one of 65 is too great, without any sibling, too.
func TestJoinAboutTheDotsBound(t *testing.T) {
	for n := range 65 {
		for _, more := range []int{63 - n, 64 - n, 65 - n, 64} {
			if more < 0 || more > 64 {
				continue
			}
			a, b := api.State{Seen: many(n, 0, 3)}, api.State{Seen: many(more, 64, 1)}
			s, e := dvv.Join(a, b)
			if n+more <= 64 && (e != api.OK || len(s.Seen) != n+more) {
				t.Errorf("%d and %d: %d dots, %v", n, more, len(s.Seen), e)
			}
			if n+more > 64 && (e != api.ErrBig || !isZero(s)) {
				t.Errorf("%d and %d: %v, %v", n, more, s, e)
			}
			wantTwo(t, "dots", a, b)
			wantTwo(t, "dots with siblings", wide(n, 0, "x"), wide(more, 64, "y"))
		}
	}
}

// P11.2, P11.3: drawn states, of which some may not be; one is often a changed copy of the other.
func TestDrawnTwo(t *testing.T) {
	r := rand.New(rand.NewSource(112))
	errs, ups := map[api.Errno]int{}, 0
	for range 15000 {
		a, b := drawnAny(r), drawnAny(r)
		switch r.Intn(4) {
		case 0:
			a = drawn(r)
			b = changed(r, a)
		case 1:
			a, b = drawn(r), drawn(r)
		}
		_, e := wantJoin(a, b)
		errs[e]++
		if wantBelow(a, b) {
			ups++
		}
		wantTwo(t, "drawn", a, b)
		if t.Failed() {
			t.FailNow()
		}
	}
	if errs[api.OK] < 3000 || errs[api.ErrState] < 3000 || errs[api.ErrBig] < 50 || ups < 500 {
		t.Errorf("%v, %d below", errs, ups)
	}
}

// R3: what Join answers is new memory, also where it is one of both, or both are one.
func TestJoinAnew(t *testing.T) {
	for what, s := range states() {
		a, b := roomy(s), roomy(state("1:2 2:1; 1:2=x 2:1=y"))
		for _, c := range [][2]api.State{{a, {}}, {{}, a}, {a, a}, {a, b}, {b, a}} {
			wasA, wasB := clone(whole(a)), clone(whole(b))
			first, e := dvv.Join(c[0], c[1])
			second, f := dvv.Join(c[0], c[1])
			want := clone(second)
			scribble(first)
			if !same(whole(a), wasA) || !same(whole(b), wasB) {
				t.Errorf("%s: the join is memory of an argument", what)
			}
			if e != f || !same(second, want) {
				t.Errorf("%s: two answers share memory", what)
			}
			if third, _ := dvv.Join(c[0], c[1]); !same(third, want) {
				t.Errorf("%s: a later answer shows what was written", what)
			}
		}
	}
}
