package cancel_test

import (
	"math/rand"
	"runtime"
	"sync"
	"sync/atomic"
	"testing"

	"concord/api"
	"concord/cancel"
)

// P18.1: one that was made under another one goes with it, and not the other way round.
func TestUnder(t *testing.T) {
	a := cancel.New()
	tells(t, "new", a, api.OK)
	b, c := cancel.Under(a), cancel.Under(a)
	low := cancel.Under(b)
	tells(t, "under", b, api.OK)
	b.Cancel(api.ErrTries)
	tells(t, "the one above", a, api.OK)
	tells(t, "the one beside", c, api.OK)
	tells(t, "the one below", low, api.ErrTries)
	tells(t, "later under one that is cancelled", cancel.Under(b), api.ErrTries)
	tells(t, "later under one that is cancelled with the one above", cancel.Under(low), api.ErrTries)
	tells(t, "later under one that is not", cancel.Under(a), api.OK)
	if cancel.Under(b).Cancel(api.ErrArg) {
		t.Error("one that came as cancelled was cancelled")
	}
	late := cancel.Under(c)
	a.Cancel(api.ErrBusy)
	tells(t, "the one beside, with the one above", c, api.ErrBusy)
	tells(t, "a late one", late, api.ErrBusy)
	tells(t, "the first", b, api.ErrTries)
}

// P18.1, P18.2, P18.3: a nil token is never cancelled; one that a hand made neither.
func TestNoToken(t *testing.T) {
	for _, none := range []*cancel.Token{nil, {}} {
		if none.Cancel(api.ErrDown) || none.Why() != api.OK || none.Done() != nil || none.Off() {
			t.Error("no token")
		}
		if cancel.One(none, none) || cancel.One(none, cancel.New()) || cancel.One(cancel.New(), none) {
			t.Error("no token is one with something")
		}
		u := cancel.Under(none)
		tells(t, "under no token", u, api.OK)
		if !u.Cancel(api.OK) {
			t.Error("under no token: not cancelled")
		}
		tells(t, "under no token", u, api.ErrCancel)
		want(t, "Each of no token", cancel.Each(none, 2, 3, fine), api.OK)
		c := make(chan int, 1)
		n, e := cancel.Feed(none, c, []int{1})
		wantCount(t, "Feed of no token", n, e, 1, api.OK)
		l, e := cancel.Gather(none, c, 1)
		wantList(t, "Gather of no token", l, e, []int{1}, api.OK)
	}
}

// P18.2: the reason is the first one's; OK stands for ErrCancel, and any other number for itself.
func TestCancel(t *testing.T) {
	for why, reason := range map[api.Errno]api.Errno{api.OK: api.ErrCancel, api.ErrCancel: api.ErrCancel, api.ErrArg: api.ErrArg, -1: -1, 999: 999} {
		k := cancel.New()
		if !k.Cancel(why) || k.Cancel(why) || k.Cancel(api.ErrDone) {
			t.Errorf("%v: not just the first one", why)
		}
		tells(t, "cancelled", k, reason)
	}
}

// P18.2: what is cancelled already stays as it is, whatever stands above and below.
func TestCancelAround(t *testing.T) {
	a := cancel.New()
	b := cancel.Under(a)
	c := cancel.Under(b)
	d := cancel.Under(c)
	beside := cancel.Under(b)
	other := cancel.New()
	c.Cancel(api.ErrFull)
	b.Cancel(api.ErrForm)
	a.Cancel(api.ErrDone)
	for i, k := range []*cancel.Token{a, b, c, d, beside, other} {
		tells(t, "around", k, []api.Errno{api.ErrDone, api.ErrForm, api.ErrFull, api.ErrFull, api.ErrForm, api.OK}[i])
	}
}

// P18.3: a channel a token, each time the same one.
func TestDone(t *testing.T) {
	a := cancel.New()
	all := []*cancel.Token{a, cancel.New(), cancel.Under(a), cancel.Under(a), cancel.Under(nil), cancelled(api.OK), cancel.Under(cancelled(api.OK))}
	for round := range 2 {
		for i, x := range all {
			for j, y := range all {
				if (x.Done() == y.Done()) != (i == j) || cancel.One(x, y) != (i == j) {
					t.Errorf("round %d: the channels of %d and %d", round, i, j)
				}
			}
		}
		before := a.Done()
		a.Cancel(api.OK)
		if a.Done() != before {
			t.Error("another channel behind Cancel")
		}
	}
}

// P18.3: who waits at the channel is waked, and finds the reason there, and all that is under it cancelled.
func TestWake(t *testing.T) {
	for range 200 {
		a := cancel.New()
		b := cancel.Under(a)
		c := cancel.Under(b)
		var waiting sync.WaitGroup
		for _, k := range []*cancel.Token{a, b, c} {
			waiting.Go(func() {
				<-k.Done()
				tells(t, "waked", k, api.ErrDown)
				tells(t, "the lowest one", c, api.ErrDown)
			})
		}
		waiting.Go(func() {
			<-c.Done()
			if c.Why() == api.ErrDown {
				tells(t, "the highest one", a, api.ErrDown)
			}
		})
		a.Cancel(api.ErrDown)
		waiting.Wait()
	}
}

// P18.2, P18.9: of several that cancel at a time one did it, and its reason it is.
func TestCancelAtATime(t *testing.T) {
	for range 200 {
		a := cancel.New()
		b := cancel.Under(a)
		var did atomic.Int64
		var all sync.WaitGroup
		for i := range 8 {
			all.Go(func() {
				if a.Cancel(api.Errno(i + 1)) {
					did.Add(int64(i + 1))
				}
				cancel.Under(b).Cancel(api.ErrDown)
			})
		}
		all.Wait()
		if d := did.Load(); d < 1 || d > 8 {
			t.Fatalf("not just one: %d", d)
		}
		tells(t, "cancelled", a, api.Errno(did.Load()))
		tells(t, "under it", b, api.Errno(did.Load()))
	}
}

// P18.9: drawn tokens, made and cancelled in drawn order, against what was noted of them.
func TestTokensDrawn(t *testing.T) {
	type noted struct {
		k     *cancel.Token
		above int
		why   api.Errno
	}
	r := rand.New(rand.NewSource(18))
	with, below := 0, 0
	for range 1000 {
		l := []noted{{k: cancel.New(), above: -1}}
		for range 1 + r.Intn(60) {
			at := len(l) - 1 - r.Intn(min(len(l), 20))
			if r.Intn(6) > 0 {
				l = append(l, noted{cancel.Under(l[at].k), at, l[at].why})
				continue
			}
			why := api.Errno(1 + r.Intn(300))
			was := l[at].why
			if l[at].k.Cancel(why) != (was == api.OK) {
				t.Fatal("what Cancel answered")
			}
			if was != api.OK {
				continue
			}
			l[at].why = why
			for i := at + 1; i < len(l); i++ {
				if up := l[i].above; l[i].why == api.OK && l[up].why != api.OK {
					l[i].why = l[up].why
					below++
				}
			}
			with++
		}
		for _, x := range l {
			tells(t, "drawn", x.k, x.why)
		}
	}
	if with < 1000 || below < 1000 {
		t.Errorf("the test has lost its weight: %d, %d", with, below)
	}
}

// P18.2: tokens under tokens, as deep as may be.
func TestDeep(t *testing.T) {
	a := cancel.New()
	low := a
	for range 1 << 16 {
		low = cancel.Under(low)
	}
	a.Cancel(api.ErrDown)
	tells(t, "the lowest", low, api.ErrDown)
}

// P18.2: what was cancelled is not kept: by the one above, by one that was cancelled with it, or where many were at one time.
func TestNothingKept(t *testing.T) {
	const many = 100000
	a := cancel.New()
	b := cancel.New()
	before := heap()
	for range many {
		u := cancel.Under(a)
		cancel.Under(u)
		u.Cancel(api.OK)
		cancel.Under(b)
	}
	b.Cancel(api.OK)
	l := make([]*cancel.Token, many)
	for i := range l {
		l[i] = cancel.Under(a)
	}
	for _, u := range l {
		u.Cancel(api.OK)
	}
	clear(l)
	if grown := heap() - before; grown > 6<<20 {
		t.Errorf("%d bytes are kept", grown)
	}
	last := cancel.Under(a)
	a.Cancel(api.ErrDown)
	tells(t, "the last one", last, api.ErrDown)
	tells(t, "the other one", b, api.ErrCancel)
}

// heap is how many bytes are in use.
func heap() int64 {
	var m runtime.MemStats
	runtime.GC()
	runtime.ReadMemStats(&m)
	return int64(m.HeapAlloc)
}

// P18.2, P18.3: with many under one another it is one moment at which all are cancelled: who sees the highest one closed sees all closed, and who has a low one's reason sees the highest one closed.
func TestOneMoment(t *testing.T) {
	a := cancel.New()
	low := make([]*cancel.Token, 20000)
	for i := range low {
		low[i] = cancel.Under(a)
	}
	first, last := low[0], low[len(low)-1]
	var waiting sync.WaitGroup
	waiting.Go(func() {
		<-a.Done()
		if !first.Off() || !last.Off() {
			t.Error("one below is open still")
		}
	})
	for _, k := range []*cancel.Token{first, last} {
		waiting.Go(func() {
			<-k.Done()
			if k.Why() != api.ErrDown || !a.Off() {
				t.Error("the one above is open still")
			}
		})
	}
	runtime.Gosched()
	a.Cancel(api.ErrDown)
	waiting.Wait()
	for _, k := range low {
		tells(t, "below", k, api.ErrDown)
	}
}

// P18.1: several that make tokens under one at a time lose none.
func TestUnderAtATime(t *testing.T) {
	a := cancel.New()
	var made [8][]*cancel.Token
	var all sync.WaitGroup
	for i := range made {
		all.Go(func() {
			for range 3000 {
				made[i] = append(made[i], cancel.Under(a))
			}
		})
	}
	all.Wait()
	a.Cancel(api.ErrDown)
	for _, l := range made {
		for _, k := range l {
			if !k.Off() {
				t.Fatal("one was lost")
			}
		}
	}
}

// A copy of a token is the same token.
func TestCopied(t *testing.T) {
	a := cancel.New()
	b := *a
	if !cancel.One(a, &b) || !b.Cancel(api.ErrDown) || a.Cancel(api.ErrArg) {
		t.Error("a copy")
	}
	tells(t, "the first", a, api.ErrDown)
}
