package kinds_test

import (
	"math/rand"
	"slices"
	"strings"
	"testing"

	"concord/api"
	"concord/kinds"
)

// wantResolve is what values come to, and the error: the kinds of all are looked at ahead of the join's length.
func wantResolve(values []string) (string, api.Errno) {
	if len(values) == 0 {
		return "", api.OK
	}
	for _, v := range values {
		if wantKind(v) == 0 || wantKind(v) != wantKind(values[0]) {
			return "", api.ErrKind
		}
	}
	joined := values[0]
	for _, v := range values {
		var e api.Errno
		if joined, e = wantJoin(joined, v); e != api.OK {
			return "", e
		}
	}
	return joined, api.OK
}

// wantResolved holds what Resolve answers against the oracle, the values being those of the siblings that are there.
func wantResolved(t *testing.T, what string, s api.State) {
	t.Helper()
	var there []string
	for _, x := range s.Siblings {
		if !x.Gone {
			there = append(there, x.Value)
		}
	}
	want, e := wantResolve(there)
	if got, f := kinds.Resolve(s); got != want || f != e {
		t.Errorf("%s: Resolve of %q is % x, %v, want % x, %v", what, there, got, f, want, e)
	}
}

// P12.7: states told by hand.
func TestResolve(t *testing.T) {
	parts := func(n int) []string {
		var l []string
		for i := range n {
			l = append(l, "\x04"+string(rising(rune(0x30+i), 1)))
		}
		return l
	}
	for what, c := range map[string]struct {
		values []string
		want   string
		e      api.Errno
	}{
		"nothing":                       {nil, "", api.OK},
		"one flag":                      {[]string{"\x01\x00"}, "\x01\x00", api.OK},
		"three floats":                  {[]string{kinds.Real(2), kinds.Real(5), kinds.Real(3)}, kinds.Real(5), api.OK},
		"three tallies":                 {[]string{"\x03\x01\x00\x01\x00\x00", "\x03\x02\x00\x00\x00\x01", "\x03\x01\x00\x00\x00\x02"}, "\x03\x01\x00\x01\x00\x02\x02\x00\x00\x00\x01", api.OK},
		"three sets":                    {[]string{"\x04C", "\x04A", "\x04BC"}, "\x04ABC", api.OK},
		"three corners":                 {[]string{kinds.Corner(1 + 2i), kinds.Corner(3 - 1i), kinds.Corner(2)}, kinds.Corner(3 + 2i), api.OK},
		"like values":                   {[]string{"\x01\x01", "\x01\x01"}, "\x01\x01", api.OK},
		"an empty value":                {[]string{""}, "", api.ErrKind},
		"an empty value beside another": {[]string{"\x01\x01", ""}, "", api.ErrKind},
		"a plain one":                   {[]string{"plain"}, "", api.ErrKind},
		"a plain one behind":            {[]string{"\x04A", "\x04B", "plain"}, "", api.ErrKind},
		"a plain one ahead":             {[]string{"plain", "\x04A"}, "", api.ErrKind},
		"two plain ones":                {[]string{"plain", "plain"}, "", api.ErrKind},
		"unlike kinds":                  {[]string{kinds.Real(1), kinds.Corner(1)}, "", api.ErrKind},
		"unlike kinds behind":           {[]string{"\x01\x00", "\x01\x01", "\x03"}, "", api.ErrKind},
		"39 sets of one":                {parts(39), "\x04" + letters(39), api.OK},
		"40 sets of one":                {parts(40), "", api.ErrBig},
		"64 sets of one":                {parts(64), "", api.ErrBig},
		"too big, and a flag behind":    {append(parts(40), "\x01\x01"), "", api.ErrKind},
		"too big, and a corner behind":  {append(parts(40), kinds.Corner(0)), "", api.ErrKind},
		"too big, and a plain behind":   {append(parts(40), "~"), "", api.ErrKind},
		"too big, and an empty behind":  {append(parts(40), ""), "", api.ErrKind},
	} {
		if got, e := kinds.Resolve(holding(c.values...)); got != c.want || e != c.e {
			t.Errorf("%s: % x, %v", what, got, e)
		}
		wantResolved(t, what, holding(c.values...))
	}
}

// P12.7: those that are gone do not count.
func TestResolveGone(t *testing.T) {
	gone := func(n uint64) api.Sibling {
		return api.Sibling{Dot: api.Dot{Actor: 2, Count: n}, Gone: true}
	}
	s := holding("\x04A", "\x04B")
	s.Seen = append(s.Seen, api.Dot{Actor: 2, Count: 9})
	s.Siblings = append(s.Siblings, gone(1), gone(9))
	if got, e := kinds.Resolve(s); got != "\x04AB" || e != api.OK {
		t.Errorf("two gone: % x, %v", got, e)
	}
	s.Siblings = s.Siblings[2:]
	if got, e := kinds.Resolve(s); got != "" || e != api.OK {
		t.Errorf("all gone: % x, %v", got, e)
	}
	s.Siblings = nil
	if got, e := kinds.Resolve(s); got != "" || e != api.OK {
		t.Errorf("seen alone: % x, %v", got, e)
	}
	if got, e := kinds.Resolve(api.State{}); got != "" || e != api.OK {
		t.Errorf("absent: % x, %v", got, e)
	}
}

// P12.7: states that may not be, whatever their values are.
func TestResolveNoState(t *testing.T) {
	for _, value := range []string{"\x01\x01", "plain", ""} {
		one := api.Sibling{Dot: api.Dot{Actor: 1, Count: 1}, Value: value}
		two := api.Sibling{Dot: api.Dot{Actor: 1, Count: 2}, Value: value}
		seen := []api.Dot{{Actor: 1, Count: 2}}
		for what, s := range map[string]api.State{
			"not covered":         {Siblings: []api.Sibling{one}},
			"siblings that fall":  {Seen: seen, Siblings: []api.Sibling{two, one}},
			"a sibling twice":     {Seen: seen, Siblings: []api.Sibling{one, one}},
			"a count of 0":        {Seen: seen, Siblings: []api.Sibling{{Dot: api.Dot{Actor: 1}, Value: value}}},
			"gone with a value":   {Seen: seen, Siblings: []api.Sibling{one, {Dot: two.Dot, Gone: true, Value: value + "x"}}},
			"seen that falls":     {Seen: []api.Dot{{Actor: 2, Count: 1}, {Actor: 1, Count: 1}}, Siblings: []api.Sibling{one}},
			"a count of 0 seen":   {Seen: []api.Dot{{Actor: 1, Count: 2}, {Actor: 2}}, Siblings: []api.Sibling{one}},
			"a value of 41 bytes": {Seen: seen, Siblings: []api.Sibling{one, {Dot: two.Dot, Value: "\x04" + string(rising('!', 40))}}},
			"65 siblings":         holding(slices.Repeat([]string{value}, 65)...),
			"a million siblings":  holding(slices.Repeat([]string{value}, 1_000_000)...),
		} {
			if got, e := kinds.Resolve(s); got != "" || e != api.ErrState {
				t.Errorf("%s, %q: % x, %v", what, value, got, e)
			}
		}
	}
	if got, e := kinds.Resolve(holding(slices.Repeat([]string{"\x01\x01"}, 64)...)); got != "\x01\x01" || e != api.OK {
		t.Errorf("64 siblings: % x, %v", got, e)
	}
}

// drawnValues are up to n values, mostly of one kind.
func drawnValues(r *rand.Rand, n int) []string {
	var l []string
	kind := 1 + r.Intn(5)
	for range r.Intn(n + 1) {
		v := drawnOf(r, kind)
		if kind == 4 && r.Intn(8) > 0 {
			v = "\x04" + string(rising('0'+rune(r.Intn(60)), r.Intn(4)))
		}
		if r.Intn(100) == 0 {
			v = drawnText(r)
		}
		l = append(l, v)
	}
	for i, v := range l {
		l[i] = v[:min(len(v), 40)]
	}
	return l
}

// laid is a state with these values as siblings, in this order, of drawn dots, with gone ones between.
func laid(r *rand.Rand, values []string) api.State {
	var s api.State
	actor, count := uint32(r.Intn(3)), uint64(0)
	for len(values) > 0 {
		count += 1 + uint64(r.Intn(3))
		x := api.Sibling{Dot: api.Dot{Actor: actor, Count: count}, Gone: true}
		if len(s.Siblings)+len(values) >= 64 || r.Intn(4) > 0 {
			x = api.Sibling{Dot: x.Dot, Value: values[0]}
			values = values[1:]
		}
		s.Siblings = append(s.Siblings, x)
		if r.Intn(3) == 0 || len(values) == 0 {
			s.Seen = append(s.Seen, api.Dot{Actor: actor, Count: count + uint64(r.Intn(5))})
			actor, count = actor+1+uint32(r.Intn(4)), 0
		}
	}
	return s
}

// P12.7, P12.9: drawn values, laid upon other dots, in another order, some of them twice, come to the same.
func TestResolveWhateverTheDots(t *testing.T) {
	r := rand.New(rand.NewSource(1207))
	told := map[api.Errno]int{}
	for range 10_000 {
		l := drawnValues(r, 12)
		want, e := wantResolve(l)
		told[e]++
		for range 4 {
			s := laid(r, l)
			wantResolved(t, "drawn", s)
			if got, f := kinds.Resolve(s); got != want || f != e {
				t.Fatalf("%q: % x, %v, want % x, %v", l, got, f, want, e)
			}
			r.Shuffle(len(l), func(i, k int) { l[i], l[k] = l[k], l[i] })
			if len(l) > 0 && r.Intn(2) == 0 {
				l = append(l, l[r.Intn(len(l))])
			}
		}
	}
	if told[api.OK] < 4000 || told[api.ErrKind] < 300 || told[api.ErrBig] < 100 {
		t.Errorf("what was told: %v", told)
	}
}

// R3: the state stays as it was.
func TestResolveLeavesTheState(t *testing.T) {
	s := holding("\x04C", "\x04A", strings.Clone("\x04B"))
	was := slices.Clone(s.Siblings)
	kinds.Resolve(s)
	if !slices.Equal(s.Siblings, was) || !slices.Equal(s.Seen, []api.Dot{{Actor: 1, Count: 3}}) {
		t.Errorf("it is %v now", s)
	}
}
