package cancel_test

import (
	"math/rand"
	"slices"
	"sync"
	"testing"
	"testing/synctest"

	"concord/api"
	"concord/cancel"
)

// fed is what a Feed told.
type fed struct {
	n int
	e api.Errno
}

// gathered is what a Gather told.
type gathered struct {
	l []int
	e api.Errno
}

func feed(k *cancel.Token, out chan<- int, l []int) chan fed {
	answer := make(chan fed, 1)
	go func() {
		n, e := cancel.Feed(k, out, l)
		answer <- fed{n, e}
	}()
	synctest.Wait()
	return answer
}

func gather(k *cancel.Token, in <-chan int, most int) chan gathered {
	answer := make(chan gathered, 1)
	go func() {
		l, e := cancel.Gather(k, in, most)
		answer <- gathered{l, e}
	}()
	synctest.Wait()
	return answer
}

// P18.6: no channel; no things; all things, and the channel stays open.
func TestFeed(t *testing.T) {
	for _, k := range []*cancel.Token{nil, cancel.New(), cancelled(api.ErrDown)} {
		n, e := cancel.Feed(k, nil, []int{1})
		wantCount(t, "no channel", n, e, 0, api.ErrNil)
		n, e = cancel.Feed[int](k, nil, nil)
		wantCount(t, "no channel, no things", n, e, 0, api.ErrNil)
		c := make(chan int, 1)
		for _, none := range [][]int{nil, {}} {
			n, e = cancel.Feed(k, c, none)
			wantCount(t, "no things", n, e, 0, api.OK)
		}
	}
	c := make(chan int, 5)
	l := []int{3, 1, 2}
	n, e := cancel.Feed(cancel.New(), c, l)
	wantCount(t, "three", n, e, 3, api.OK)
	if len(c) != 3 || <-c != 3 || <-c != 1 || <-c != 2 || !slices.Equal(l, []int{3, 1, 2}) {
		t.Error("three: others were sent")
	}
	c <- 4 // a closed one would panic
}

// P18.6: cancelled ahead of the call nothing is sent, though there is room.
func TestFeedCancelledAhead(t *testing.T) {
	c := make(chan int, 1)
	for range 200 {
		n, e := cancel.Feed(cancelled(api.ErrTries), c, []int{1})
		wantCount(t, "cancelled", n, e, 0, api.ErrTries)
	}
	if len(c) > 0 {
		t.Error("something was sent")
	}
}

// P18.6: cancelled while a send waits.
func TestFeedCancelledWhile(t *testing.T) {
	apart(t, func(t *testing.T) {
		c := make(chan int)
		up := cancel.New()
		answer := feed(cancel.Under(up), c, []int{5, 6, 7})
		if len(answer) > 0 || <-c != 5 {
			t.Error("the first")
		}
		synctest.Wait()
		up.Cancel(api.ErrBusy)
		x := <-answer
		wantCount(t, "while the second waits", x.n, x.e, 1, api.ErrBusy)
		late := gather(nil, c, 1)
		if len(late) > 0 {
			t.Error("a further one was sent")
		}
		close(c)
	})
}

// P18.6: cancelled from the other side, of two things that it could take none further is sent.
func TestFeedCancelledByReceiver(t *testing.T) {
	apart(t, func(t *testing.T) {
		c := make(chan int)
		k := cancel.New()
		answer := feed(k, c, []int{1, 2, 3})
		if <-c != 1 || <-c != 2 {
			t.Error("the first two")
		}
		synctest.Wait()
		k.Cancel(api.OK)
		x := <-answer
		wantCount(t, "behind two", x.n, x.e, 2, api.ErrCancel)
	})
}

// P18.6: cancelled in the midst of it: as many are there as were told.
func TestFeedCancelledMidst(t *testing.T) {
	for midst, tries := 0, 0; midst < 10 && tries < 100; tries++ {
		c := make(chan int, 65536)
		k := cancel.New()
		var other sync.WaitGroup
		other.Go(func() {
			<-c
			k.Cancel(api.ErrBusy)
		})
		n, e := cancel.Feed(k, c, make([]int, 65536))
		other.Wait()
		if n != len(c)+1 || (e == api.OK) != (n == 65536) || e != api.OK && e != api.ErrBusy {
			t.Fatalf("%d, %v, and %d are there", n, e, len(c))
		}
		if e != api.OK {
			midst++
		}
	}
}

// P18.6: behind the last one the token is not looked at.
func TestFeedLast(t *testing.T) {
	for range 100 {
		c := make(chan int)
		k := cancel.New()
		var other sync.WaitGroup
		other.Go(func() {
			<-c
			<-c
			k.Cancel(api.OK)
		})
		n, e := cancel.Feed(k, c, []int{1, 2})
		other.Wait()
		wantCount(t, "behind the last one", n, e, 2, api.OK)
	}
}

// P18.7: what may not be, in order.
func TestGatherRefuses(t *testing.T) {
	c := make(chan int, 3)
	c <- 1
	for _, k := range []*cancel.Token{nil, cancelled(api.ErrDown)} {
		for _, most := range []int{-1, 0, 1, 65537} {
			l, e := cancel.Gather[int](k, nil, most)
			wantList(t, "no channel", l, e, nil, api.ErrNil)
		}
		for _, most := range []int{-1, -1 << 62, 65537, 1 << 62} {
			l, e := cancel.Gather(k, c, most)
			wantList(t, "most", l, e, nil, api.ErrArg)
		}
	}
	if len(c) != 1 {
		t.Error("something was received")
	}
}

// P18.7: in order, up to the end or to most; noughts are things, too.
func TestGather(t *testing.T) {
	c := make(chan int, 9)
	for _, x := range []int{0, 4, 0, 2, 3} {
		c <- x
	}
	for _, k := range []*cancel.Token{nil, cancel.New(), cancelled(api.OK)} {
		l, e := cancel.Gather(k, c, 0)
		wantList(t, "none", l, e, nil, api.OK)
	}
	l, e := cancel.Gather(cancel.New(), c, 3)
	wantList(t, "three", l, e, []int{0, 4, 0}, api.OK)
	if len(c) != 2 {
		t.Errorf("%d are left", len(c))
	}
	close(c)
	l, e = cancel.Gather(nil, c, 2)
	wantList(t, "two", l, e, []int{2, 3}, api.OK)
	l, e = cancel.Gather(cancel.New(), c, 65536)
	wantList(t, "at the end", l, e, nil, api.OK)
	all := make(chan struct{}, 65537)
	for range 65537 {
		all <- struct{}{}
	}
	if l, e := cancel.Gather(nil, all, 65536); len(l) != 65536 || e != api.OK || len(all) != 1 {
		t.Errorf("65536: %d, %v, and %d are left", len(l), e, len(all))
	}
}

// P18.7: cancelled ahead of the call nothing is received, though there is something, or the end.
func TestGatherCancelledAhead(t *testing.T) {
	c := make(chan int, 1)
	c <- 1
	for range 200 {
		l, e := cancel.Gather(cancelled(api.ErrTries), c, 1)
		wantList(t, "cancelled", l, e, nil, api.ErrTries)
	}
	if len(c) != 1 {
		t.Error("something was received")
	}
	close(c)
	l, e := cancel.Gather(cancelled(api.ErrTries), c, 5)
	wantList(t, "cancelled, closed", l, e, nil, api.ErrTries)
}

// P18.7: cancelled while a receive waits: the reason, and nothing of what was received.
func TestGatherCancelledWhile(t *testing.T) {
	apart(t, func(t *testing.T) {
		c := make(chan int)
		up := cancel.New()
		answer := gather(cancel.Under(up), c, 5)
		c <- 1
		c <- 2
		synctest.Wait()
		if len(answer) > 0 {
			t.Error("answered ahead of the end")
		}
		up.Cancel(api.ErrBusy)
		x := <-answer
		wantList(t, "cancelled", x.l, x.e, nil, api.ErrBusy)
	})
}

// P18.7: it waits for what comes, and for the end.
func TestGatherWaits(t *testing.T) {
	apart(t, func(t *testing.T) {
		c := make(chan int)
		answer := gather(cancel.New(), c, 5)
		c <- 1
		c <- 0
		synctest.Wait()
		if len(answer) > 0 {
			t.Error("answered ahead of the end")
		}
		close(c)
		x := <-answer
		wantList(t, "closed", x.l, x.e, []int{1, 0}, api.OK)
	})
}

// P18.7: what is told is new memory.
func TestGatherNew(t *testing.T) {
	c := make(chan int, 9)
	for i := range 9 {
		c <- i
	}
	a, _ := cancel.Gather(nil, c, 3)
	b, _ := cancel.Gather(nil, c, 3)
	_ = append(a, 7, 7, 7)
	a[0] = 7
	if !slices.Equal(b, []int{3, 4, 5}) {
		t.Errorf("the second list: %v", b)
	}
}

// P18.8: a line's room, at its edges.
func TestLineRoom(t *testing.T) {
	for _, room := range []int{-1 << 62, -1, 65537, 1 << 62} {
		if l, e := cancel.NewLine[int](room); l != nil || e != api.ErrArg {
			t.Errorf("room %d: %v", room, e)
		}
	}
	apart(t, func(t *testing.T) {
		for _, room := range []int{0, 1, 5, 65536} {
			l, e := cancel.NewLine[int](room)
			if l == nil || e != api.OK || l.Len() != 0 {
				t.Fatalf("room %d: %v", room, e)
			}
			k := cancel.New()
			answer := make(chan fed, 1)
			go func() {
				n, e := l.Feed(k, upTo(room+1))
				answer <- fed{n, e}
			}()
			synctest.Wait()
			if len(answer) > 0 || l.Len() != room {
				t.Errorf("room %d: %d are on it", room, l.Len())
			}
			k.Cancel(api.ErrDown)
			x := <-answer
			wantCount(t, "full", x.n, x.e, room, api.ErrDown)
			got, e := l.Gather(nil, room)
			wantList(t, "all", got, e, upTo(room), api.OK)
		}
	})
}

// P18.8: behind Close there is nothing to be fed, and what is on the line is gathered still.
func TestLineClosed(t *testing.T) {
	l, _ := cancel.NewLine[int](3)
	l.Feed(nil, []int{1, 2})
	if !l.Close() || l.Close() || l.Close() || l.Len() != 2 {
		t.Error("Close")
	}
	for _, k := range []*cancel.Token{nil, cancelled(api.ErrDown)} {
		for _, things := range [][]int{nil, {}, {3}} {
			n, e := l.Feed(k, things)
			wantCount(t, "closed", n, e, 0, api.ErrDone)
		}
	}
	got, e := l.Gather(cancelled(api.ErrDown), 1)
	wantList(t, "cancelled", got, e, nil, api.ErrDown)
	got, e = l.Gather(nil, -1)
	wantList(t, "less than none", got, e, nil, api.ErrArg)
	got, e = l.Gather(nil, 65537)
	wantList(t, "too many", got, e, nil, api.ErrArg)
	got, e = l.Gather(cancelled(api.ErrDown), 0)
	wantList(t, "none", got, e, nil, api.OK)
	got, e = l.Gather(cancel.New(), 3)
	wantList(t, "the rest", got, e, []int{1, 2}, api.OK)
	got, e = l.Gather(cancel.New(), 3)
	wantList(t, "the end", got, e, nil, api.OK)
}

// P18.8: an open line, with a token that is cancelled.
func TestLineCancelled(t *testing.T) {
	l, _ := cancel.NewLine[int](3)
	off := cancelled(api.ErrDown)
	n, e := l.Feed(off, []int{1})
	wantCount(t, "Feed", n, e, 0, api.ErrDown)
	n, e = l.Feed(off, nil)
	wantCount(t, "Feed of nothing", n, e, 0, api.OK)
	got, e := l.Gather(off, 1)
	wantList(t, "Gather", got, e, nil, api.ErrDown)
	if l.Len() != 0 {
		t.Error("something is on the line")
	}
}

// P18.8: no line, and one that a hand made.
func TestNoLine(t *testing.T) {
	for _, l := range []*cancel.Line[int]{nil, {}} {
		if l.Close() || l.Close() || l.Len() != 0 {
			t.Error("Close or Len")
		}
		n, e := l.Feed(cancelled(api.ErrDown), nil)
		wantCount(t, "Feed", n, e, 0, api.ErrNil)
		got, e := l.Gather(cancelled(api.ErrDown), -1)
		wantList(t, "Gather", got, e, nil, api.ErrNil)
	}
}

// P18.8: of several that close at a time one did it.
func TestLineClosedAtATime(t *testing.T) {
	for range 200 {
		l, _ := cancel.NewLine[int](1)
		var did calls
		var all sync.WaitGroup
		for i := range 6 {
			all.Go(func() {
				if l.Close() {
					did.add(i)
				}
			})
		}
		all.Wait()
		if n := len(did.rising()); n != 1 {
			t.Fatalf("%d closed it", n)
		}
	}
}

// P18.9: what is fed is gathered again, in order; by way of lines with less room too, where somebody gathers meanwhile.
func TestLineDrawn(t *testing.T) {
	r := rand.New(rand.NewSource(189))
	for range 300 {
		things := make([]int, r.Intn(50))
		for i := range things {
			things[i] = r.Intn(3)
		}
		l, _ := cancel.NewLine[int](len(things))
		for at := 0; at < len(things); {
			more := 1 + r.Intn(len(things)-at)
			n, e := l.Feed(cancel.New(), things[at:at+more])
			wantCount(t, "a piece", n, e, more, api.OK)
			at += more
		}
		l.Close()
		var got []int
		for l.Len() > 0 {
			piece, e := l.Gather(nil, 1+r.Intn(9))
			want(t, "Gather", e, api.OK)
			got = append(got, piece...)
		}
		wantList(t, "all", got, api.OK, things, api.OK)
		through(t, r.Intn(4), things)
	}
}

// through feeds things through a line of little room, while they are gathered.
func through(t *testing.T, room int, things []int) {
	t.Helper()
	l, _ := cancel.NewLine[int](room)
	var feeder sync.WaitGroup
	feeder.Go(func() {
		n, e := l.Feed(nil, things)
		wantCount(t, "through", n, e, len(things), api.OK)
		l.Close()
	})
	got, e := l.Gather(nil, 65536)
	feeder.Wait()
	wantList(t, "through", got, e, things, api.OK)
}
