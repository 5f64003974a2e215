package tree

import "concord/api"

// inner is how many nodes stand above the segments; the first segment's node has that number.
const inner = 1 + api.Fanout + api.Fanout*api.Fanout

// firsts are the levels' first nodes; the last one is where a further level would begin.
// Each is sixteen times the one ahead and one more, so the children of the node n are 16n + 1 to 16n + 16.
var firsts = [...]int{0, 1, 17, 273, 4369}

// Node is the number of a node of a level.
func Node(level, index int) (uint16, api.Errno) {
	if level < 0 || level > api.Depth {
		return 0, api.ErrArg
	}
	if index < 0 || index >= firsts[level+1]-firsts[level] {
		return 0, api.ErrArg
	}
	return uint16(firsts[level] + index), api.OK
}

// Level is a node's level; below 0: there is no such node.
func Level(node uint16) int8 {
	for level := range api.Depth + 1 {
		if int(node) < firsts[level+1] {
			return int8(level)
		}
	}
	return -1
}

// Index is a node's place in its level.
func Index(node uint16) int {
	level := Level(node)
	if level < 0 {
		return 0
	}
	return int(node) - firsts[level]
}

// Parent is the node above.
func Parent(node uint16) (uint16, bool) {
	if Level(node) < 1 {
		return 0, false
	}
	return (node - 1) / api.Fanout, true
}

// Kid is a node's i-th child.
func Kid(node uint16, i int) (uint16, bool) {
	if node >= inner || i < 0 || i >= api.Fanout {
		return 0, false
	}
	return node*api.Fanout + 1 + uint16(i), true
}
