package ast

import (
	"cupel/api"
	"cupel/sha"
	"cupel/wire"
)

const (
	hashPurpose = 'N'

	kindBytes   = 1 // of a node's kind,
	typeBytes   = 1 // of its type,
	numberBytes = 8 // of its number,
	kidsBytes   = 1 // of how many kids it has

	mostText = 64 // bytes of a node's text

	// mostLevels is how deep a tree may be: as deep as that of a text in its one form. Its MaxDepth blocks and brackets within one another are levels each; between two blocks there may stand a loop; a program and a function stand above them, a statement and a name below.
	mostLevels = 2*api.MaxDepth + 3
)

// Put puts a tree.
func Put(w *wire.Writer, n api.Node) {
	for _, spot := range spots(&n) { // a node's own bytes stand ahead of its kids', as its place does
		w.Number(uint64(spot.Kind), kindBytes)
		w.Number(uint64(spot.T), typeBytes)
		w.Text(spot.S)
		w.Number(uint64(spot.N), numberBytes)
		w.Number(uint64(len(spot.Kids)), kidsBytes)
	}
}

// Take takes a tree.
func Take(r *wire.Reader) api.Node {
	t := taker{r, api.MaxNodes}
	n := t.node(1)
	if r.Err() != api.OK {
		return api.Node{}
	}
	return n
}

// taker takes the nodes of one tree.
type taker struct {
	r    *wire.Reader
	left int // nodes that may still come
}

// node takes a node that stands on a level, and all below it. That it may not be is told ahead of its bytes.
func (t *taker) node(level int) api.Node {
	if t.left == 0 || level > mostLevels {
		t.r.Fail(api.ErrMany)
		return api.Node{}
	}
	t.left--
	var n api.Node
	n.Kind = int(t.r.Number(kindBytes))
	n.T = int(t.r.Number(typeBytes))
	n.S = t.r.Text(mostText)
	n.N = int64(t.r.Number(numberBytes))
	for range t.r.Number(kidsBytes) {
		n.Kids = append(n.Kids, t.node(level+1))
		if t.r.Err() != api.OK {
			return api.Node{}
		}
	}
	return n
}

// Encode is a tree's bytes.
func Encode(n api.Node) string {
	w := wire.NewWriter()
	Put(w, n)
	return w.All()
}

// Decode is the tree of bytes.
func Decode(s string) (api.Node, api.Errno) {
	r := wire.NewReader(s)
	n := Take(r)
	if e := r.End(); e != api.OK {
		return api.Node{}, e
	}
	return n, api.OK
}

// Hash is a tree's digest, without the types of its expressions.
func Hash(n api.Node) string { return sha.Tagged(hashPurpose, Encode(Bare(n))) }
