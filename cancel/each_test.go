package cancel_test

import (
	"math/rand"
	"slices"
	"sync/atomic"
	"testing"
	"testing/synctest"

	"concord/api"
	"concord/cancel"
)

// P18.4: what may not be, in the order in which it is told; nothing is called.
func TestEachRefuses(t *testing.T) {
	called := func(i int) api.Errno { t.Error("called"); return api.OK }
	off := cancelled(api.ErrDown)
	for _, workers := range []int{-1, 0, 17, 1 << 40} {
		want(t, "workers", cancel.Each(off, workers, 1, called), api.ErrArg)
		want(t, "workers, no function", cancel.Each(off, workers, 1, nil), api.ErrArg)
	}
	for _, n := range []int{-1, -1 << 62, 65537, 1 << 62} {
		want(t, "n", cancel.Each(off, 1, n, called), api.ErrArg)
		want(t, "n, no function", cancel.Each(off, 1, n, nil), api.ErrArg)
	}
	for _, n := range []int{0, 1, 65536} {
		want(t, "no function", cancel.Each(off, 1, n, nil), api.ErrNil)
		want(t, "cancelled", cancel.Each(off, 16, n, called), api.ErrDown)
	}
}

// P18.4: each number once, by every number of workers, never by more at a time.
func TestEachOnce(t *testing.T) {
	for workers := 1; workers <= cancel.MaxWorkers; workers++ {
		for _, n := range []int{0, 1, 2, 15, 16, 17, 100} {
			var c calls
			var now, most atomic.Int64
			e := cancel.Each(cancel.New(), workers, n, func(i int) api.Errno {
				if x := now.Add(1); x > most.Load() {
					most.Store(x)
				}
				c.add(i)
				now.Add(-1)
				return api.OK
			})
			want(t, "all", e, api.OK)
			if l := c.rising(); !slices.Equal(l, upTo(n)) {
				t.Errorf("%d workers, %d: %v", workers, n, l)
			}
			if most.Load() > int64(workers) {
				t.Errorf("%d workers: %d at a time", workers, most.Load())
			}
		}
	}
}

// P18.4: as many as may be.
func TestEachMost(t *testing.T) {
	var count atomic.Int64
	want(t, "65536", cancel.Each(nil, 16, 65536, func(int) api.Errno { count.Add(1); return api.OK }), api.OK)
	if count.Load() != 65536 {
		t.Errorf("%d of 65536", count.Load())
	}
}

// P18.4: by one worker the numbers come one behind the other.
func TestEachInOrder(t *testing.T) {
	var l []int
	want(t, "one worker", cancel.Each(nil, 1, 1000, func(i int) api.Errno { l = append(l, i); return api.OK }), api.OK)
	if !slices.Equal(l, upTo(1000)) {
		t.Error("not in order")
	}
}

// gates are pieces of work that begin, and end when they are told to.
type gates struct {
	begun calls
	gate  []chan api.Errno
}

func newGates(n int) *gates {
	g := &gates{gate: make([]chan api.Errno, n)}
	for i := range g.gate {
		g.gate[i] = make(chan api.Errno)
	}
	return g
}

func (g *gates) work(i int) api.Errno {
	g.begun.add(i)
	return <-g.gate[i]
}

// end ends a piece, and waits till all that follows has been done.
func (g *gates) end(i int, e api.Errno) {
	g.gate[i] <- e
	synctest.Wait()
}

func (g *gates) has(t *testing.T, what string, n int) {
	t.Helper()
	synctest.Wait()
	g.begun.lock.Lock()
	defer g.begun.lock.Unlock()
	l := slices.Clone(g.begun.list)
	slices.Sort(l)
	if !slices.Equal(l, upTo(n)) {
		t.Errorf("%s: begun are %v, want %d", what, l, n)
	}
}

// each starts an Each and hands out where its answer will be.
func (g *gates) each(k *cancel.Token, workers int) chan api.Errno {
	answer := make(chan api.Errno, 1)
	go func() { answer <- cancel.Each(k, workers, len(g.gate), g.work) }()
	synctest.Wait()
	return answer
}

// P18.4: so many at a time, and the next one when one has ended.
func TestEachAtATime(t *testing.T) {
	apart(t, func(t *testing.T) {
		g := newGates(6)
		answer := g.each(nil, 3)
		g.has(t, "the first", 3)
		g.end(1, api.OK)
		g.has(t, "behind one", 4)
		g.end(3, api.OK)
		g.has(t, "behind two", 5)
		for _, i := range []int{0, 2, 4, 5} {
			if len(answer) > 0 {
				t.Error("answered ahead of the end")
			}
			g.end(i, api.OK)
		}
		want(t, "the answer", <-answer, api.OK)
	})
}

// P18.4: behind an error none is begun, those that were begun run to their end, and the least one's error it is.
func TestEachFails(t *testing.T) {
	apart(t, func(t *testing.T) {
		g := newGates(9)
		answer := g.each(cancel.New(), 3)
		g.end(0, api.OK)
		g.end(2, api.ErrFull)
		g.has(t, "behind an error", 4)
		g.end(3, api.OK)
		g.has(t, "behind one that is well", 4)
		if len(answer) > 0 {
			t.Error("answered while one was on")
		}
		g.end(1, api.ErrForm)
		want(t, "the least one's", <-answer, api.ErrForm)
		g.has(t, "all", 4)
	})
}

// P18.4: behind Cancel none is begun, those that were begun run to their end, and the reason it is.
func TestEachCancelled(t *testing.T) {
	apart(t, func(t *testing.T) {
		g := newGates(9)
		up := cancel.New()
		answer := g.each(cancel.Under(up), 3)
		g.end(0, api.OK)
		up.Cancel(api.ErrTries)
		for i := 1; i < 4; i++ {
			if len(answer) > 0 {
				t.Error("answered while some were on")
			}
			g.end(i, api.OK)
			g.has(t, "cancelled", 4)
		}
		want(t, "the reason", <-answer, api.ErrTries)
	})
}

// P18.4: an error goes ahead of the reason, whichever came first.
func TestEachFailsAndCancelled(t *testing.T) {
	for _, first := range []bool{false, true} {
		apart(t, func(t *testing.T) {
			g := newGates(9)
			k := cancel.New()
			answer := g.each(k, 2)
			if first {
				k.Cancel(api.ErrTries)
			}
			g.end(1, api.ErrFull)
			k.Cancel(api.ErrTries)
			g.end(0, api.OK)
			want(t, "both", <-answer, api.ErrFull)
		})
	}
}

// P18.4: where the token is cancelled when all have ended, the reason it is, though all were done.
func TestEachCancelledAtTheEnd(t *testing.T) {
	for _, workers := range []int{1, 3} {
		k := cancel.New()
		var c calls
		e := cancel.Each(k, workers, 5, func(i int) api.Errno {
			c.add(i)
			if i == 4 {
				k.Cancel(api.ErrBusy)
			}
			return api.OK
		})
		want(t, "all done", e, api.ErrBusy)
		if l := c.rising(); !slices.Equal(l, upTo(5)) {
			t.Errorf("all done: %v", l)
		}
	}
}

// P18.4: drawn numbers fail, or cancel: what was begun is a beginning, and the answer is the least one's, whatever the workers do.
func TestEachDrawn(t *testing.T) {
	r := rand.New(rand.NewSource(184))
	failed, broken := 0, 0
	for range 3000 {
		n, workers := r.Intn(40), 1+r.Intn(16)
		fails := make([]api.Errno, n)
		least := n
		for i := range n {
			if r.Intn(12) == 0 {
				fails[i] = api.Errno(1 + i)
				least = min(least, i)
			}
		}
		at := -1
		if r.Intn(3) == 0 {
			at = r.Intn(40)
		}
		k := cancel.New()
		var c calls
		e := cancel.Each(k, workers, n, func(i int) api.Errno {
			c.add(i)
			if i == at {
				k.Cancel(api.ErrDown)
			}
			return fails[i]
		})
		l := c.rising()
		if !slices.Equal(l, upTo(len(l))) {
			t.Fatalf("not a beginning: %v", l)
		}
		reached := len(l) > least
		switch {
		case reached:
			want(t, "the least one's", e, fails[least])
			failed++
		case at >= 0 && at < len(l):
			want(t, "cancelled", e, api.ErrDown)
			broken++
		default:
			want(t, "all", e, api.OK)
			if len(l) != n {
				t.Fatalf("%d of %d", len(l), n)
			}
		}
		if (at < 0 || at >= n) && !reached && least < n {
			t.Fatalf("%v: %d was not worked on", l, least)
		}
	}
	if failed < 500 || broken < 100 {
		t.Errorf("the test has lost its weight: %d, %d", failed, broken)
	}
}

// P18.4: by one worker none is begun behind an error.
func TestEachFailsAlone(t *testing.T) {
	for range 200 {
		var c calls
		e := cancel.Each(nil, 1, 10, func(i int) api.Errno {
			c.add(i)
			if i >= 5 {
				return api.ErrFull
			}
			return api.OK
		})
		want(t, "5 fails", e, api.ErrFull)
		if l := c.rising(); !slices.Equal(l, upTo(6)) {
			t.Fatalf("5 fails: %v", l)
		}
	}
}

// P18.4: one Each within another one, with one token.
func TestEachWithin(t *testing.T) {
	k := cancel.New()
	var count atomic.Int64
	e := cancel.Each(k, 4, 10, func(i int) api.Errno {
		return cancel.Each(k, 4, 10, func(j int) api.Errno {
			count.Add(1)
			if i == 9 && j == 9 {
				k.Cancel(api.ErrDone)
			}
			return api.OK
		})
	})
	want(t, "within", e, api.ErrDone)
	if n := count.Load(); n < 10 || n > 100 {
		t.Errorf("%d were called", n)
	}
}

// P18.5: what may not be.
func TestMapRefuses(t *testing.T) {
	off := cancelled(api.ErrDown)
	called := func(int) (int, api.Errno) { t.Error("called"); return 1, api.OK }
	for _, workers := range []int{-1, 0, 17} {
		l, e := cancel.Map(off, workers, []int{1}, called)
		wantList(t, "workers", l, e, nil, api.ErrArg)
		l, e = cancel.Map[int, int](off, workers, []int{1}, nil)
		wantList(t, "workers, no function", l, e, nil, api.ErrArg)
	}
	l, e := cancel.Map(off, 1, make([]int, 65537), called)
	wantList(t, "65537 things", l, e, nil, api.ErrArg)
	l, e = cancel.Map[int, int](off, 1, make([]int, 65537), nil)
	wantList(t, "65537 things, no function", l, e, nil, api.ErrArg)
	l, e = cancel.Map[int, int](off, 1, []int{1}, nil)
	wantList(t, "no function", l, e, nil, api.ErrNil)
	l, e = cancel.Map[int, int](nil, 1, nil, nil)
	wantList(t, "no function, no things", l, e, nil, api.ErrNil)
	for _, things := range [][]int{nil, {}, {1}} {
		l, e = cancel.Map(off, 1, things, called)
		wantList(t, "cancelled", l, e, nil, api.ErrDown)
	}
}

// P18.5: the answers stand as the things do; the things stay as they are.
func TestMap(t *testing.T) {
	for workers := 1; workers <= cancel.MaxWorkers; workers++ {
		for _, n := range []int{0, 1, 5, 300} {
			things := upTo(n)
			l, e := cancel.Map(cancel.New(), workers, things, func(i int) (string, api.Errno) { return string(rune(i)), api.OK })
			if e != api.OK || len(l) != n {
				t.Fatalf("%d workers: %d of %d, %v", workers, len(l), n, e)
			}
			for i, s := range l {
				if s != string(rune(i)) {
					t.Fatalf("%d workers: %q at %d", workers, s, i)
				}
			}
			if !slices.Equal(things, upTo(n)) {
				t.Error("the things are others now")
			}
		}
	}
	l, e := cancel.Map(nil, 16, make([]byte, 65536), func(b byte) (byte, api.Errno) { return b + 1, api.OK })
	if e != api.OK || len(l) != 65536 || slices.Min(l) != 1 {
		t.Errorf("65536 things: %d, %v", len(l), e)
	}
}

// P18.5: an error, or a token that is cancelled meanwhile: no answers.
func TestMapFails(t *testing.T) {
	for workers := 1; workers <= cancel.MaxWorkers; workers++ {
		l, e := cancel.Map(cancel.New(), workers, []int{0, 0, 3, 0, 1, 2}, func(x int) (int, api.Errno) { return 7, api.Errno(x) })
		wantList(t, "the least one's", l, e, nil, 3)
		k := cancel.New()
		l, e = cancel.Map(k, workers, upTo(9), func(x int) (int, api.Errno) { return 7, api.OK })
		if e != api.OK || len(l) != 9 {
			t.Errorf("nine: %v, %v", l, e)
		}
		l, e = cancel.Map(k, workers, upTo(9), func(x int) (int, api.Errno) {
			k.Cancel(api.ErrBusy)
			return 7, api.OK
		})
		wantList(t, "cancelled", l, e, nil, api.ErrBusy)
	}
}
