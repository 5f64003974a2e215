package dvv

import (
	"concord/api"
	"concord/vector"
)

// Put is the state behind a put, and the put's dot.
func Put(s api.State, ctx []api.Dot, actor uint32, value string, gone bool) (api.State, api.Dot, api.Errno) {
	if e := wrong(s, ctx, content{gone: gone, value: value}); e != api.OK {
		return api.State{}, api.Dot{}, e
	}
	dot, e := next(s.Seen, ctx, actor)
	if e != api.OK {
		return api.State{}, api.Dot{}, e
	}
	after, e := behind(s, ctx, api.Sibling{Dot: dot, Gone: gone, Value: value})
	if e != api.OK {
		return api.State{}, api.Dot{}, e
	}
	return after, dot, api.OK
}

// wrong is what is wrong with what is handed in to a put.
func wrong(s api.State, ctx []api.Dot, c content) api.Errno {
	switch {
	case !Valid(s):
		return api.ErrState
	case !vector.Valid(ctx):
		return api.ErrVector
	case !c.mayBe():
		return api.ErrValue
	}
	return api.OK
}

// next is the actor's dot behind all that either vector tells of it: a context may know of puts that the state does not.
func next(seen, ctx []api.Dot, actor uint32) (api.Dot, api.Errno) {
	count := max(vector.Count(seen, actor), vector.Count(ctx, actor))
	if count == api.MaxCount {
		return api.Dot{}, api.ErrEnd
	}
	return api.Dot{Actor: actor, Count: count + 1}, api.OK
}

// behind is the state behind a put whose context is ctx.
func behind(s api.State, ctx []api.Dot, put api.Sibling) (api.State, api.Errno) {
	read, e := vector.Max(s.Seen, ctx)
	if e != api.OK {
		return api.State{}, e
	}
	seen, e := vector.Max(read, []api.Dot{put.Dot})
	if e != api.OK {
		return api.State{}, e
	}
	siblings := between(unseen(nil, s.Siblings, ctx), put)
	if len(siblings) > api.MaxDots {
		return api.State{}, api.ErrBig
	}
	return api.State{Seen: seen, Siblings: siblings}, api.OK
}

// between puts a sibling at its place between others.
func between(siblings []api.Sibling, x api.Sibling) []api.Sibling {
	at := 0
	for at < len(siblings) && ahead(siblings[at].Dot, x.Dot) {
		at++
	}
	// Without room behind its end the first piece does not grow into the second.
	out := append(siblings[:at:at], x)
	return append(out, siblings[at:]...)
}
