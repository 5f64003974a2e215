package node

import (
	"sort"

	"concord/api"
)

// Find is the place of the first cell whose key is not below, and whether it is the key.
func Find(n api.Node, key string) (int, bool) {
	if refused(n, true) != api.OK {
		return 0, false
	}
	return cellPlace(n.Cells, key)
}

// cellPlace is how many of rising cells have a key below another one, and whether one has it.
func cellPlace(cells []api.Cell, key string) (int, bool) {
	i := sort.Search(len(cells), func(i int) bool { return cells[i].Key >= key })
	return i, i < len(cells) && cells[i].Key == key
}

// Put is the leaf with a cell.
func Put(n api.Node, key, value string) (api.Node, api.Errno) {
	if e := refused(n, true); e != api.OK {
		return api.Node{}, e
	}
	if key == "" {
		return api.Node{}, api.ErrArg
	}
	from, found := cellPlace(n.Cells, key)
	to := from
	if found {
		to++
	}
	cells := spliced(n.Cells, from, to, api.Cell{Key: key, Value: value})
	return checked(api.Node{Leaf: true, Cells: cells})
}

// Take is the leaf without a cell.
func Take(n api.Node, key string) (api.Node, bool) {
	i, found := Find(n, key)
	if !found {
		return api.Node{}, false
	}
	return api.Node{Leaf: true, Cells: spliced(n.Cells, i, i+1)}, true
}
