package rebuild_test

import (
	"fmt"
	"math/rand"
	"runtime"
	"slices"
	"testing"

	"concord/api"
	"concord/cancel"
	"concord/rebuild"
	"concord/tree"
)

// someEntries are so many, or fewer, by rising keys.
func someEntries(r *rand.Rand, n, width int) []api.Entry {
	var l []api.Entry
	for range n {
		key := make([]byte, 1+r.Intn(4))
		if r.Intn(8) == 0 {
			key = make([]byte, 32)
		}
		r.Read(key)
		l = append(l, api.Entry{Key: string(key), Sum: someSum(r, width)})
	}
	return rising(l)
}

func someSum(r *rand.Rand, width int) string {
	sum := make([]byte, width)
	r.Read(sum)
	return string(sum)
}

// rising are entries by their keys, each key once.
func rising(l []api.Entry) []api.Entry {
	slices.SortFunc(l, func(a, b api.Entry) int {
		switch {
		case a.Key < b.Key:
			return -1
		case a.Key > b.Key:
			return 1
		}
		return 0
	})
	return slices.CompactFunc(l, func(a, b api.Entry) bool { return a.Key == b.Key })
}

// wantSurvey holds a Survey against the oracle and against the tree of the entries.
func wantSurvey(t *testing.T, what string, l []api.Entry, width, workers int) {
	t.Helper()
	got, e := rebuild.Survey(nil, l, width, workers)
	wantOK(t, what, e)
	if must := segmentSums(l, width); !slices.Equal(got, must) {
		t.Fatalf("%s, width %d, %d workers: %x, want %x", what, width, workers, got, must)
	}
	whole, e := tree.Build(width, l)
	wantOK(t, "Build", e)
	for n, sum := range got {
		if must, e := whole.Sum(uint16(273 + n)); sum != must || e != api.OK {
			t.Fatalf("%s, width %d, %d workers: of the segment %d: %x, want %x", what, width, workers, n, sum, must)
		}
	}
}

// P19.4, P19.7: drawn lists, with any number of workers.
func TestSurvey(t *testing.T) {
	for seed := range int64(16) {
		r := rand.New(rand.NewSource(seed))
		width := []int{1, 2, 8, 31, 32, 1 + r.Intn(32)}[seed%6]
		l := someEntries(r, r.Intn(400), width)
		for workers := 1; workers <= 16; workers++ {
			wantSurvey(t, fmt.Sprint("seed ", seed), l, width, workers)
		}
	}
}

// P19.4: none, one at each end, many in one segment, and very many.
func TestSurveyEdges(t *testing.T) {
	r := rand.New(rand.NewSource(194))
	wantSurvey(t, "none", nil, 1, 1)
	wantSurvey(t, "none", []api.Entry{}, 32, 16)
	ends := rising([]api.Entry{{Key: keyIn(0), Sum: "s"}, {Key: keyIn(4095), Sum: "t"}})
	var many, all []api.Entry
	for _, n := range []int{0, 2005, 4095} {
		for _, key := range keys()[n] {
			many = append(many, api.Entry{Key: key, Sum: someSum(r, 5)})
		}
	}
	for n := range 4096 {
		all = append(all, api.Entry{Key: keyIn(n), Sum: someSum(r, 32)})
	}
	for _, workers := range []int{1, 5, 16} {
		wantSurvey(t, "the ends", ends, 1, workers)
		wantSurvey(t, "many in a segment", rising(many), 5, workers)
		wantSurvey(t, "one in each", rising(all), 32, workers)
		wantSurvey(t, "very many", someEntries(r, 10000, 7), 7, workers)
	}
}

// P19.4: what is wrong, in the order that the chapter tells.
func TestSurveyArguments(t *testing.T) {
	fine := []api.Entry{{Key: "a", Sum: "xy"}, {Key: "b", Sum: "xy"}}
	wrong := map[string][]api.Entry{
		"of another width": {{Key: "a", Sum: "xy"}, {Key: "b", Sum: "x"}},
		"of no sum":        {{Key: "a"}},
		"falling":          {{Key: "b", Sum: "xy"}, {Key: "a", Sum: "xy"}},
		"twice":            {{Key: "a", Sum: "xy"}, {Key: "a", Sum: "xy"}},
		"no key":           {{Key: "", Sum: "xy"}},
		"a long key":       {{Key: "012345678901234567890123456789012", Sum: "xy"}},
		"the last is long": {{Key: "a", Sum: "xy"}, {Key: "b", Sum: "xyz"}},
	}
	off := cancelled(api.ErrDown)
	refused := func(what string, k *cancel.Token, l []api.Entry, width, workers int, e api.Errno) {
		t.Helper()
		if sums, got := rebuild.Survey(k, l, width, workers); sums != nil || got != e {
			t.Errorf("%s: %d texts, %v, want %v", what, len(sums), got, e)
		}
	}
	for _, width := range []int{0, -1, 33, 1 << 40, -1 << 63} {
		refused("the width", nil, fine, width, 3, api.ErrArg)
		refused("the width, and all else", off, wrong["falling"], width, 0, api.ErrArg)
		refused("the width of no entries", nil, nil, width, 3, api.ErrArg)
	}
	for what, l := range wrong {
		refused(what, nil, l, 2, 3, api.ErrEntry)
		refused(what+", and all else", off, l, 2, 0, api.ErrEntry)
		refused(what+", and cancelled", off, l, 2, 3, api.ErrEntry)
	}
	refused("the width is another one", nil, fine, 3, 3, api.ErrEntry)
	for _, workers := range []int{0, -1, 17, 4096, 1 << 40} {
		refused("the workers", nil, fine, 2, workers, api.ErrArg)
		refused("the workers, and cancelled", off, fine, 2, workers, api.ErrArg)
		refused("the workers, and no entries", nil, nil, 2, workers, api.ErrArg)
	}
	refused("cancelled", off, fine, 2, 3, api.ErrDown)
	refused("cancelled, without entries", off, nil, 2, 16, api.ErrDown)
	refused("cancelled from above", cancel.Under(cancel.Under(off)), fine, 2, 1, api.ErrDown)
}

// R3: what is handed in stays as it is, with the room behind its end, and is not kept.
func TestSurveyKeepsNothing(t *testing.T) {
	r := rand.New(rand.NewSource(3))
	l := append(someEntries(r, 200, 4), someEntries(r, 20, 4)...)
	all := slices.Clone(l)
	l = l[:100]
	first, e := rebuild.Survey(nil, l, 4, 5)
	wantOK(t, "Survey", e)
	if !slices.Equal(l[:len(all)], all) {
		t.Error("the argument has changed")
	}
	must := slices.Clone(first)
	for i := range first[:cap(first)] {
		first[:cap(first)][i] = "written"
	}
	second, e := rebuild.Survey(nil, l, 4, 5)
	wantOK(t, "Survey", e)
	clear(l)
	if !slices.Equal(second, must) {
		t.Error("another answer")
	}
}

// P19.4: cancelled at any moment it answers the reason, or what it would have answered.
func TestSurveyCancelledMeanwhile(t *testing.T) {
	r := rand.New(rand.NewSource(5))
	l := someEntries(r, 800, 8)
	must := segmentSums(l, 8)
	for round := range 100 {
		apart(t, func(t *testing.T) {
			k, ended := cancel.New(), make(chan struct{})
			go func() {
				defer close(ended)
				for range round * 20 {
					runtime.Gosched()
				}
				k.Cancel(api.ErrTries)
			}()
			got, e := rebuild.Survey(k, l, 8, 1+round%16)
			<-ended
			switch {
			case e == api.OK && slices.Equal(got, must):
			case e == api.ErrTries && got == nil:
			default:
				t.Errorf("round %d: %d texts, %v", round, len(got), e)
			}
		})
	}
}

// R2: no goroutine is left behind.
func TestSurveyLeavesNobody(t *testing.T) {
	l := someEntries(rand.New(rand.NewSource(6)), 300, 8)
	for _, workers := range []int{0, 1, 2, 16, 17} {
		for _, k := range []*cancel.Token{nil, cancel.New(), cancelled(api.ErrDown)} {
			apart(t, func(*testing.T) { rebuild.Survey(k, l, 8, workers) })
			apart(t, func(*testing.T) { rebuild.Survey(k, l, 9, workers) })
		}
	}
}

// R2: several may be at work at one time.
func TestSurveysAtOneTime(t *testing.T) {
	r := rand.New(rand.NewSource(7))
	l := someEntries(r, 500, 8)
	must := segmentSums(l, 8)
	e := cancel.Each(nil, 8, 24, func(i int) api.Errno {
		got, e := rebuild.Survey(nil, l, 8, 1+i%16)
		if !slices.Equal(got, must) {
			t.Errorf("the %d-th: another answer", i)
		}
		return e
	})
	want(t, "all", e, api.OK)
}
