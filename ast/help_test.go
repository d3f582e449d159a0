package ast

import (
	"math/rand"
	"strings"
	"testing"

	"cupel/api"
)

// allKinds is the chapter's own list of kinds, by numbers, so that it is not the program's.
var allKinds = []int{1, 2, 3, 4, 5, 6, 7, 8, 9, 10, 11, 12, 13, 14, 20, 21, 22, 23, 24, 25, 26, 27}

func same[T comparable](t *testing.T, what string, got, want T) {
	t.Helper()
	if got != want {
		t.Errorf("%s: %v, not %v", what, got, want)
	}
}

// equal holds two trees against each other by words of its own.
func equal(a, b api.Node) bool {
	if a.Kind != b.Kind || a.T != b.T || a.S != b.S || a.N != b.N || len(a.Kids) != len(b.Kids) {
		return false
	}
	for i := range a.Kids {
		if !equal(a.Kids[i], b.Kids[i]) {
			return false
		}
	}
	return true
}

func sameTree(t *testing.T, what string, got, want api.Node) {
	t.Helper()
	if !equal(got, want) {
		t.Errorf("%s: %+v, not %+v", what, got, want)
	}
}

// copied is a tree of its own, that Clone did not make.
func copied(n api.Node) api.Node {
	out := api.Node{Kind: n.Kind, T: n.T, S: n.S, N: n.N}
	for _, kid := range n.Kids {
		out.Kids = append(out.Kids, copied(kid))
	}
	return out
}

// spoil changes all fields of all nodes below one, and of it.
func spoil(n *api.Node) {
	for i := range n.Kids {
		spoil(&n.Kids[i])
	}
	n.Kind, n.T, n.S, n.N = n.Kind+50, n.T+50, n.S+"?", n.N+50
	kids := n.Kids[:cap(n.Kids)] // what lies behind a list is not another one's, either
	for i := len(n.Kids); i < len(kids); i++ {
		kids[i] = api.Node{Kind: 99, S: "!"}
	}
}

// flat is a tree's nodes in the order of their places, by a model of its own: each node that is looked at gives way to itself and its kids.
func flat(n api.Node) []api.Node {
	waiting := []api.Node{n}
	var out []api.Node
	for len(waiting) > 0 {
		first := waiting[0]
		out = append(out, first)
		waiting = append(append([]api.Node{}, first.Kids...), waiting[1:]...)
	}
	return out
}

// Short words for nodes.

func node(kind int, kids ...api.Node) api.Node { return api.Node{Kind: kind, Kids: kids} }

func named(kind int, s string, kids ...api.Node) api.Node {
	return api.Node{Kind: kind, S: s, Kids: kids}
}

func typed(kind, t int, s string, kids ...api.Node) api.Node {
	return api.Node{Kind: kind, T: t, S: s, Kids: kids}
}

func whole(n int64) api.Node { return api.Node{Kind: api.NodeInt, N: n} }

func name(s string) api.Node { return api.Node{Kind: api.NodeVar, S: s} }

func yes() api.Node { return api.Node{Kind: api.NodeBool, N: 1} }

func no() api.Node { return api.Node{Kind: api.NodeBool} }

// sample has each kind of nodes once at least, with types at expressions, at declarations and at a conversion.
func sample() api.Node {
	sum := typed(api.NodeBin, api.TypeInt, "+", typed(api.NodeVar, api.TypeInt, "a"), api.Node{Kind: api.NodeInt, T: api.TypeInt, N: 1})
	half := Float("0.5")
	half.T = api.TypeFloat
	call := typed(api.NodeCall, api.TypeInt, "f", typed(api.NodeConv, api.TypeInt, "", half), api.Node{Kind: api.NodeBool, T: api.TypeBool, N: 1})
	low := typed(api.NodeUnary, api.TypeInt, "-", sum)
	return node(api.NodeProgram,
		typed(api.NodeGlobal, api.TypeInt, "g", whole(-3)),
		typed(api.NodeFunc, api.TypeInt, "f", typed(api.NodeParam, api.TypeInt, "a"), typed(api.NodeParam, api.TypeBool, "b"), node(api.NodeBlock,
			named(api.NodeDefine, "x", low),
			named(api.NodeAssign, "g", whole(7)),
			node(api.NodeIf, name("b"), node(api.NodeBlock, node(api.NodeSkip)), node(api.NodeBlock)),
			node(api.NodeFor, no(), node(api.NodeBlock, node(api.NodeSkip))),
			node(api.NodeReturn, name("x")))),
		named(api.NodeTest, "t", node(api.NodeBlock, node(api.NodeDo, call), node(api.NodeAssert, yes()))))
}

const sampleText = "var g int = -3;\n" +
	"func f(a int, b bool) int { x := -(a + 1); g = 7; if b { skip; } else { } for false { skip; } return x; }\n" +
	"test t { f(int(0.5), true); assert true; }\n"

// chain is nodes of a kind within one another, so many levels of them.
func chain(kind, levels int) api.Node {
	n := node(kind)
	for range levels - 1 {
		n = node(kind, n)
	}
	return n
}

// wide is a node with so many kids, which their numbers tell apart.
func wide(kids int) api.Node {
	n := node(api.NodeBlock)
	for i := range kids {
		n.Kids = append(n.Kids, whole(int64(i)))
	}
	return n
}

// broad is a tree of just so many nodes, of a few levels, with at most 255 kids each.
func broad(nodes int) api.Node {
	n := node(api.NodeProgram)
	left := nodes - 1
	for left > 0 {
		size := min(left, 200)
		n.Kids = append(n.Kids, wide(size-1))
		left -= size
	}
	return n
}

// anyTree is a tree by chance: of any kinds, with any fields that a tree's bytes have room for.
func anyTree(rnd *rand.Rand, levels int) api.Node {
	n := api.Node{Kind: rnd.Intn(30), T: rnd.Intn(5), S: strings.Repeat("ab\x00\xff", rnd.Intn(3)), N: int64(rnd.Uint64()) >> rnd.Intn(64)}
	if levels > 1 {
		for range rnd.Intn(4) {
			n.Kids = append(n.Kids, anyTree(rnd, levels-1))
		}
	}
	return n
}

// someTrees is trees of all sorts: lone nodes, deep ones, wide ones, ones by chance.
func someTrees() []api.Node {
	list := []api.Node{{}, whole(5), node(api.NodeBlock), sample(), chain(api.NodeUnary, 60), wide(255), broad(700)}
	rnd := rand.New(rand.NewSource(10))
	for range 40 {
		list = append(list, anyTree(rnd, 1+rnd.Intn(5)))
	}
	return list
}
