package cancel_test

import (
	"slices"
	"testing"

	"concord/api"
	"concord/cancel"
)

func fine(int) api.Errno { return api.OK }

// P18.1, P18.2, P18.3: the chapter's first three examples.
func TestExampleTokens(t *testing.T) {
	a := cancel.New()
	u := cancel.Under(a)
	v := cancel.Under(u)
	if !u.Cancel(api.ErrDown) {
		t.Error("the second one was not cancelled")
	}
	tells(t, "t", a, api.OK)
	tells(t, "u", u, api.ErrDown)
	tells(t, "v", v, api.ErrDown)
	if !a.Cancel(api.OK) || a.Cancel(api.ErrDown) || v.Cancel(api.ErrDown) {
		t.Error("the first one, twice, and the third")
	}
	tells(t, "t", a, api.ErrCancel)
	tells(t, "u", u, api.ErrDown)
	tells(t, "v", v, api.ErrDown)
	tells(t, "under v", cancel.Under(v), api.ErrDown)
}

// P18.4: the examples of Each.
func TestExampleEach(t *testing.T) {
	var c calls
	note := func(i int) api.Errno { c.add(i); return api.OK }
	want(t, "ten", cancel.Each(cancel.New(), 3, 10, note), api.OK)
	if l := c.rising(); !slices.Equal(l, upTo(10)) {
		t.Errorf("ten: %v", l)
	}
	e := cancel.Each(cancel.New(), 3, 10, func(i int) api.Errno {
		c.add(i)
		return [10]api.Errno{4: api.ErrArg, 7: api.ErrNil}[i]
	})
	want(t, "two that fail", e, api.ErrArg)
	if l := c.rising(); len(l) < 5 || !slices.Equal(l[:5], upTo(5)) {
		t.Errorf("two that fail: %v", l)
	}
	want(t, "cancelled", cancel.Each(cancelled(api.OK), 3, 10, note), api.ErrCancel)
	if l := c.rising(); len(l) > 0 {
		t.Errorf("cancelled: %v", l)
	}
	want(t, "none", cancel.Each(nil, 3, 0, fine), api.OK)
	want(t, "no worker", cancel.Each(nil, 0, 1, fine), api.ErrArg)
	want(t, "17 workers", cancel.Each(nil, 17, 1, fine), api.ErrArg)
	want(t, "no function", cancel.Each(nil, 1, 1, nil), api.ErrNil)
	for range 200 {
		s := cancel.New()
		e := cancel.Each(s, 1, 10, func(i int) api.Errno {
			c.add(i)
			if i == 3 {
				s.Cancel(api.ErrDown)
			}
			return api.OK
		})
		want(t, "cancelled by 3", e, api.ErrDown)
		if l := c.rising(); !slices.Equal(l, upTo(4)) {
			t.Fatalf("cancelled by 3: %v", l)
		}
	}
}

func length(s string) (int, api.Errno) { return len(s), api.OK }

// P18.5: the example of Map.
func TestExampleMap(t *testing.T) {
	l, e := cancel.Map(nil, 2, []string{"a", "bc", ""}, length)
	wantList(t, "how long", l, e, []int{1, 2, 0}, api.OK)
}

// P18.8: the examples of lines.
func TestExampleLines(t *testing.T) {
	l, e := cancel.NewLine[int](3)
	if l == nil || e != api.OK {
		t.Fatalf("a line: %v", e)
	}
	n, e := l.Feed(nil, []int{1, 2, 3})
	wantCount(t, "Feed", n, e, 3, api.OK)
	if l.Len() != 3 {
		t.Errorf("Len: %d", l.Len())
	}
	got, e := l.Gather(nil, 2)
	wantList(t, "Gather", got, e, []int{1, 2}, api.OK)
	if !l.Close() || l.Close() {
		t.Error("Close, twice")
	}
	n, e = l.Feed(nil, []int{4})
	wantCount(t, "Feed, closed", n, e, 0, api.ErrDone)
	got, e = l.Gather(nil, 5)
	wantList(t, "Gather, closed", got, e, []int{3}, api.OK)
	for _, room := range []int{-1, 65537} {
		if l, e := cancel.NewLine[int](room); l != nil || e != api.ErrArg {
			t.Errorf("NewLine(%d): %v, %v", room, l, e)
		}
	}
	var none *cancel.Line[int]
	if none.Len() != 0 || none.Close() {
		t.Error("a nil line: Len or Close")
	}
	n, e = none.Feed(nil, []int{1})
	wantCount(t, "a nil line: Feed", n, e, 0, api.ErrNil)
	got, e = none.Gather(nil, 1)
	wantList(t, "a nil line: Gather", got, e, nil, api.ErrNil)
}

// P18.6, P18.7: the last examples.
func TestExampleChannels(t *testing.T) {
	s := cancelled(api.OK)
	c := make(chan int, 2)
	c <- 7
	n, e := cancel.Feed(s, c, []int{1})
	wantCount(t, "Feed, cancelled", n, e, 0, api.ErrCancel)
	l, e := cancel.Gather(s, c, 1)
	wantList(t, "Gather, cancelled", l, e, nil, api.ErrCancel)
	l, e = cancel.Gather(s, c, 0)
	wantList(t, "Gather of none, cancelled", l, e, nil, api.OK)
	n, e = cancel.Feed(nil, nil, []int{1})
	wantCount(t, "Feed, no channel", n, e, 0, api.ErrNil)
	if len(c) != 1 {
		t.Errorf("%d are left", len(c))
	}
}
