package node

import (
	"slices"
	"sort"

	"concord/api"
)

// Kid is the place of the kid beneath which a key belongs.
func Kid(n api.Node, key string) int {
	if refused(n, false) != api.OK {
		return -1
	}
	return sort.Search(len(n.Keys), func(i int) bool { return n.Keys[i] > key })
}

// Grow is the branch with a key and a kid behind the i-th kid.
func Grow(n api.Node, i int, key string, kid uint32) (api.Node, api.Errno) {
	if e := refused(n, false); e != api.OK {
		return api.Node{}, e
	}
	if i < 0 || i >= len(n.Kids) || !keyMayBe(key) || kid == 0 {
		return api.Node{}, api.ErrArg
	}
	return checked(api.Node{
		Keys: spliced(n.Keys, i, i, key),
		Kids: spliced(n.Kids, i+1, i+1, kid),
	})
}

// Shrink is the branch without its i-th key and the kid behind it.
func Shrink(n api.Node, i int) (api.Node, api.Errno) {
	if e := refused(n, false); e != api.OK {
		return api.Node{}, e
	}
	if i < 0 || i >= len(n.Keys) {
		return api.Node{}, api.ErrArg
	}
	return api.Node{
		Keys: spliced(n.Keys, i, i+1),
		Kids: spliced(n.Kids, i+1, i+2),
	}, api.OK
}

// Turn is the branch with another i-th key.
func Turn(n api.Node, i int, key string) (api.Node, api.Errno) {
	if e := refused(n, false); e != api.OK {
		return api.Node{}, e
	}
	if i < 0 || i >= len(n.Keys) || !keyMayBe(key) {
		return api.Node{}, api.ErrArg
	}
	return checked(api.Node{
		Keys: spliced(n.Keys, i, i+1, key),
		Kids: slices.Clone(n.Kids),
	})
}
