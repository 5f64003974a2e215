package cancel_test

import (
	"slices"
	"sync"
	"testing"
	"testing/synctest"

	"concord/api"
	"concord/cancel"
)

// cancelled is a token that is cancelled already.
func cancelled(why api.Errno) *cancel.Token {
	t := cancel.New()
	t.Cancel(why)
	return t
}

// tells looks at all that a token tells; OK: it is not cancelled.
func tells(t *testing.T, what string, k *cancel.Token, why api.Errno) {
	t.Helper()
	if k == nil {
		t.Fatalf("%s: no token", what)
	}
	if got := k.Why(); got != why {
		t.Errorf("%s: Why %v, want %v", what, got, why)
	}
	if k.Off() != (why != api.OK) {
		t.Errorf("%s: Off %v, with %v", what, k.Off(), why)
	}
	select {
	case _, ok := <-k.Done():
		if ok {
			t.Errorf("%s: something was sent on its channel", what)
		}
		if why == api.OK {
			t.Errorf("%s: its channel is closed", what)
		}
	default:
		if why != api.OK {
			t.Errorf("%s: its channel is open", what)
		}
	}
}

func want(t *testing.T, what string, got, want api.Errno) {
	t.Helper()
	if got != want {
		t.Errorf("%s: %v, want %v", what, got, want)
	}
}

// wantList looks at a list and an error; with an error there is no list.
func wantList[T comparable](t *testing.T, what string, got []T, e api.Errno, list []T, error api.Errno) {
	t.Helper()
	if e != error || !slices.Equal(got, list) {
		t.Errorf("%s: %v, %v, want %v, %v", what, got, e, list, error)
	}
}

// wantCount looks at what a Feed told.
func wantCount(t *testing.T, what string, n int, e api.Errno, count int, error api.Errno) {
	t.Helper()
	if n != count || e != error {
		t.Errorf("%s: %d, %v, want %d, %v", what, n, e, count, error)
	}
}

// upTo is 0, 1, .. n - 1.
func upTo(n int) []int {
	l := []int{}
	for i := range n {
		l = append(l, i)
	}
	return l
}

// calls notes for which numbers a function was called, in order.
type calls struct {
	lock sync.Mutex
	list []int
}

func (c *calls) add(i int) {
	c.lock.Lock()
	defer c.lock.Unlock()
	c.list = append(c.list, i)
}

// rising is what was noted, rising, and empties the notes.
func (c *calls) rising() []int {
	c.lock.Lock()
	defer c.lock.Unlock()
	l := slices.Clone(c.list)
	slices.Sort(l)
	c.list = nil
	return l
}

// apart runs a test in which one can wait till all goroutines wait; a goroutine that is left behind at its end fails it.
func apart(t *testing.T, f func(t *testing.T)) {
	t.Helper()
	synctest.Test(t, f)
}
