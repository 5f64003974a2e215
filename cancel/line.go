package cancel

import "concord/api"

// Feed sends things, one behind the other, till it is cancelled; how many were sent.
func Feed[T any](t *Token, out chan<- T, l []T) (int, api.Errno) {
	if out == nil {
		return 0, api.ErrNil
	}
	for i, x := range l {
		// A select takes any way that is open, so the token is asked ahead of it.
		if t.Off() {
			return i, t.Why()
		}
		select {
		case out <- x:
		case <-t.Done():
			return i, t.Why()
		}
	}
	return len(l), api.OK
}

// Gather receives things till the channel is closed, or it is cancelled.
func Gather[T any](t *Token, in <-chan T, most int) ([]T, api.Errno) {
	if in == nil {
		return nil, api.ErrNil
	}
	if most < 0 || most > api.MaxBits {
		return nil, api.ErrArg
	}
	var l []T
	for len(l) < most {
		if t.Off() {
			return nil, t.Why()
		}
		select {
		case x, ok := <-in:
			if !ok {
				return l, api.OK
			}
			l = append(l, x)
		case <-t.Done():
			return nil, t.Why()
		}
	}
	return l, api.OK
}

// Line is a channel with room for some things.
type Line[T any] struct {
	things chan T
	closed *Token // cancelled by the one call that closes the channel
}

// NewLine makes one with room for so many things.
func NewLine[T any](room int) (*Line[T], api.Errno) {
	if room < 0 || room > api.MaxBits {
		return nil, api.ErrArg
	}
	return &Line[T]{make(chan T, room), New()}, api.OK
}

// Feed sends things on it.
func (l *Line[T]) Feed(t *Token, things []T) (int, api.Errno) {
	if l == nil {
		return 0, api.ErrNil
	}
	if l.closed.Off() {
		return 0, api.ErrDone
	}
	return Feed(t, l.things, things)
}

// Gather receives things from it.
func (l *Line[T]) Gather(t *Token, most int) ([]T, api.Errno) {
	if l == nil {
		return nil, api.ErrNil
	}
	return Gather(t, l.things, most)
}

// Close closes it; it says whether this call did it.
func (l *Line[T]) Close() bool {
	if l == nil || !l.closed.Cancel(api.ErrDone) {
		return false
	}
	close(l.things)
	return true
}

// Len is how many things are on it.
func (l *Line[T]) Len() int {
	if l == nil {
		return 0
	}
	return len(l.things)
}
