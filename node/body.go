package node

import (
	"concord/api"
	"concord/wire"
)

// The first byte of a body tells the kind.
const (
	leafMark   = 1
	branchMark = 2
)

// Encode is a node's body.
func Encode(n api.Node) (string, api.Errno) {
	if e := Check(n); e != api.OK {
		return "", e
	}
	if size(n) > api.PageBody {
		return "", api.ErrBig
	}
	w := wire.NewWriter()
	if n.Leaf {
		putLeaf(w, n)
	} else {
		putBranch(w, n)
	}
	return w.Told(), api.OK
}

func putLeaf(w *wire.Writer, n api.Node) {
	w.Byte(leafMark)
	w.Fixed(uint64(len(n.Cells)), 2)
	for _, c := range n.Cells {
		w.Text(c.Key)
		w.Text(c.Value)
	}
}

func putBranch(w *wire.Writer, n api.Node) {
	w.Byte(branchMark)
	w.Fixed(uint64(len(n.Keys)), 2)
	w.Fixed(uint64(n.Kids[0]), kidSize)
	for i, key := range n.Keys {
		w.Text(key)
		w.Fixed(uint64(n.Kids[i+1]), kidSize)
	}
}

// Decode is the node whose body it is.
func Decode(s string) (api.Node, api.Errno) {
	if len(s) > api.PageBody {
		return api.Node{}, api.ErrNode
	}
	r := wire.NewReader(s)
	n := takeNode(r)
	if r.End() != api.OK || Check(n) != api.OK {
		return api.Node{}, api.ErrNode
	}
	return n, api.OK
}

// takeNode takes a node that may not be yet: what wire refuses is noted by the reader.
func takeNode(r *wire.Reader) api.Node {
	switch r.Byte() {
	case leafMark:
		return takeLeaf(r)
	case branchMark:
		return takeBranch(r)
	}
	return api.Node{} // which may not be
}

func takeLeaf(r *wire.Reader) api.Node {
	n := api.Node{Leaf: true}
	// The count may lie: nothing is laid down for what the bytes do not hold.
	for count := r.Fixed(2); count > 0 && r.Err() == api.OK; count-- {
		key := r.Text(api.MaxCell)
		value := r.Text(api.MaxCell)
		n.Cells = append(n.Cells, api.Cell{Key: key, Value: value})
	}
	return n
}

func takeBranch(r *wire.Reader) api.Node {
	count := r.Fixed(2)
	n := api.Node{Kids: []uint32{takeKid(r)}}
	for ; count > 0 && r.Err() == api.OK; count-- {
		n.Keys = append(n.Keys, r.Text(api.MaxCell))
		n.Kids = append(n.Kids, takeKid(r))
	}
	return n
}

func takeKid(r *wire.Reader) uint32 { return uint32(r.Fixed(kidSize)) }
