package engine

import (
	"math/rand"
	"testing"

	"cupel/api"
	"cupel/ast"
	"cupel/check"
	"cupel/mutate"
)

// wreck is a tree with one part of a node changed to anything.
func wreck(rnd *rand.Rand, p api.Node) api.Node {
	place := rnd.Intn(ast.Count(p))
	n, _ := ast.At(p, place)
	other, _ := ast.At(p, rnd.Intn(ast.Count(p)))
	switch rnd.Intn(8) {
	case 0:
		n.Kind = rnd.Intn(30)
	case 1:
		n.T = rnd.Intn(6) - 1
	case 2:
		n.S = []string{"", "x", other.S, other.S, "?", "+", "int"}[rnd.Intn(7)]
	case 3:
		n.N = []int64{0, 1, -1, 2, other.N, 1 << 62, -1 << 63}[rnd.Intn(7)]
	case 4, 5:
		n = other
	case 6:
		if len(n.Kids) > 0 {
			i := rnd.Intn(len(n.Kids))
			n.Kids = append(n.Kids[:i], n.Kids[i+1:]...)
		}
	case 7:
		i := rnd.Intn(len(n.Kids) + 1)
		n.Kids = append(n.Kids[:i], append([]api.Node{other}, n.Kids[i:]...)...)
	}
	return ast.Replace(p, place, n)
}

// answered tells that all calls answer of any tree: check's error, or the definition's matrix.
func answered(t *testing.T, x shelf, p api.Node) api.Errno {
	t.Helper()
	for _, d := range append([]api.Node{{}}, p.Kids...) {
		same(t, "a key's length", len(Key(p, d.S, api.Fuel)), api.HashBytes)
	}
	refuses(t, "no store", nil, p, api.ErrArg)
	_, _, want := check.Program(p)
	if want != api.OK {
		refuses(t, "a wrecked one", x.Store, p, want)
		return want
	}
	m, _, e := Whole(x.Store, p)
	ok(t, "Whole", e)
	alike(t, "a wrecked one", m, defined(t, p))
	return want
}

// Rule R1: programs by chance with any part otherwise.
func TestWreckedPrograms(t *testing.T) {
	rnd := chance(6)
	ends := map[api.Errno]int{}
	x := fresh(t)
	for range 100 {
		m := maker{rnd: rnd}
		p := m.program()
		if len(mutate.List(p)) > 60 {
			continue // as small ones do, and take less time
		}
		for range 3 {
			p = wreck(rnd, p)
			ends[answered(t, x, p)]++
		}
	}
	for _, e := range []api.Errno{api.OK, api.ErrTree, api.ErrKnown, api.ErrType} {
		if ends[e] < 5 {
			t.Errorf("too few of a sort: %v", ends)
		}
	}
}

// Rule R1: any trees, of any nodes.
func TestAnyTree(t *testing.T) {
	rnd := chance(7)
	x := fresh(t)
	var any func(depth int) api.Node
	any = func(depth int) api.Node {
		n := api.Node{Kind: rnd.Intn(30), T: rnd.Intn(5) - 1, S: []string{"", "a", "b", "c", "+", "1.5"}[rnd.Intn(6)], N: int64(rnd.Intn(4) - 1)}
		for range rnd.Intn(4) {
			if depth > 0 {
				n.Kids = append(n.Kids, any(depth-1))
			}
		}
		return n
	}
	for range 500 {
		n := any(4)
		answered(t, x, n)
		n.Kind = api.NodeProgram
		answered(t, x, n)
	}
	answered(t, x, api.Node{})
}

// Rule R1: programs that are very deep, and very wide, much beyond what a text may have.
func TestGreatPrograms(t *testing.T) {
	deep := truth(1)
	for range 1<<16 - 100 {
		deep = named(api.NodeUnary, "!", deep)
	}
	broad := api.Node{Kind: api.NodeProgram}
	for range 100000 {
		broad.Kids = append(broad.Kids, named(api.NodeTest, "t", block()))
	}
	x := fresh(t)
	for _, p := range []api.Node{program(named(api.NodeTest, "t", block(tree(api.NodeAssert, deep)))), broad} {
		_, _, e := check.Program(p)
		if e == api.OK {
			t.Fatal("it may be")
		}
		refuses(t, "a great one", x.Store, p, e)
		refuses(t, "a great one, and no store", nil, p, api.ErrArg)
	}
}

// Promise 18.1: as many cells as a program may have: MaxSites mutants, and as many tests as may be beside their functions.
func TestMostCells(t *testing.T) {
	x := fresh(t)
	p := parsed(t, "test a { } test b { assert f() == 0; } "+sumOf(405))
	w := begun(t, x.Store, p)
	same(t, "Total", w.Total(), 3*api.MaxSites)
	for i := range 3 * api.MaxSites {
		same(t, "At", w.At(), i)
		ok(t, "Step", w.Step())
	}
	same(t, "Done", w.Done(), true)
	same(t, "Stats", w.Stats(), api.Stats{Run: api.MaxSites, Passed: api.MaxSites})
	m, _ := w.Matrix()
	alike(t, "as many as may be", m, defined(t, p))
	same(t, "verdicts", len(x.Verdicts()), api.MaxSites)
}
