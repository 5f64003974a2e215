package node

import (
	"slices"

	"concord/api"
)

// Split is a node in two, with the key between.
func Split(n api.Node) (api.Node, string, api.Node, api.Errno) {
	if e := Check(n); e != api.OK {
		return api.Node{}, "", api.Node{}, e
	}
	if n.Leaf && len(n.Cells) < 2 || !n.Leaf && len(n.Keys) == 0 {
		return api.Node{}, "", api.Node{}, api.ErrNode
	}
	i := cutPlace(n)
	if n.Leaf {
		left, right := cut(n.Cells, i, i)
		return api.Node{Leaf: true, Cells: left}, n.Cells[i].Key, api.Node{Leaf: true, Cells: right}, api.OK
	}
	leftKeys, rightKeys := cut(n.Keys, i, i+1)
	leftKids, rightKids := cut(n.Kids, i+1, i+1)
	return api.Node{Keys: leftKeys, Kids: leftKids}, n.Keys[i], api.Node{Keys: rightKeys, Kids: rightKids}, api.OK
}

// cutPlace is the first place at which the greater one of the two sizes is as small as can be. (At the place 0 of a leaf the right side is the whole leaf, so that is never it.)
func cutPlace(n api.Node) int {
	// Both sides have the same head, so their items alone tell which one is greater.
	left, right := 0, itemsSize(n)
	place, least := 0, right
	for i := range items(n) {
		item := itemSize(n, i)
		kept := right
		if !n.Leaf {
			kept -= item // a branch's key goes up, with the kid behind it at the head of the right side
		}
		if greater := max(left, kept); greater < least {
			place, least = i, greater
		}
		left, right = left+item, right-item
	}
	return place
}

// cut is a copy of a list in two, without what stands from one place on up to another; each half has its room alone, so that neither grows into the other.
func cut[T any](list []T, from, to int) ([]T, []T) {
	own := slices.Clone(list)
	return own[:from:from], own[to:len(own):len(own)]
}

// Join is two neighbours in one.
func Join(l api.Node, key string, r api.Node) (api.Node, api.Errno) {
	if e := Check(l); e != api.OK {
		return api.Node{}, e
	}
	if e := refused(r, l.Leaf); e != api.OK {
		return api.Node{}, e
	}
	if !keyMayBe(key) {
		return api.Node{}, api.ErrArg
	}
	if !l.Leaf {
		return checked(api.Node{
			Keys: slices.Concat(l.Keys, []string{key}, r.Keys),
			Kids: slices.Concat(l.Kids, r.Kids),
		})
	}
	if !between(l.Cells, key, r.Cells) {
		return api.Node{}, api.ErrOrder
	}
	return checked(api.Node{Leaf: true, Cells: slices.Concat(l.Cells, r.Cells)})
}

// between says whether a key is above all of some rising cells, and not above any of others.
func between(l []api.Cell, key string, r []api.Cell) bool {
	return (len(l) == 0 || l[len(l)-1].Key < key) && (len(r) == 0 || key <= r[0].Key)
}
