package object

import (
	"concord/api"
	"concord/dvv"
)

// Put is an object behind a put, and the put's dot.
func Put(o api.Object, ctx []api.Dot, actor uint32, value string, gone bool) (api.Object, api.Dot, api.Errno) {
	var dot api.Dot
	after, e := ifMayBe(o, func(string) (api.Object, api.Errno) {
		s, d, e := dvv.Put(o.State, ctx, actor, value, gone)
		dot = d
		return made(o.Key, s, e)
	})
	if e != api.OK {
		return api.Object{}, api.Dot{}, e
	}
	return after, dot, api.OK
}

// Merge is two objects of one key, joined.
func Merge(a, b api.Object) (api.Object, api.Errno) {
	return ifMayBe(a, func(string) (api.Object, api.Errno) {
		return ifMayBe(b, func(string) (api.Object, api.Errno) {
			if a.Key != b.Key {
				return api.Object{}, api.ErrArg
			}
			s, e := dvv.Join(a.State, b.State)
			return made(a.Key, s, e)
		})
	})
}

// made is the object with a state that dvv has told or refused, if it may be: what is told is asked as what comes in is, for it may have grown too great.
func made(key string, s api.State, e api.Errno) (api.Object, api.Errno) {
	if e != api.OK {
		return api.Object{}, e
	}
	o := api.Object{Key: key, State: s}
	return ifMayBe(o, func(string) (api.Object, api.Errno) { return o, api.OK })
}
