package interp

import (
	"math"
	"math/rand"
	"testing"

	"cupel/api"
	"cupel/ast"
	"cupel/check"
)

// answered tells that a run of anything answers as it must: check's error, ErrNone, ErrArg, or a result that may be; it is the error.
func answered(t *testing.T, p api.Node, test string, fuel int) api.Errno {
	t.Helper()
	before := ast.Clone(p)
	got, e := Run(p, test, fuel)
	_, _, want := check.Program(p)
	if want == api.OK {
		switch d, is := ast.Find(p, test); {
		case !is || d.Kind != api.NodeTest:
			want = api.ErrNone
		case fuel < 0 || fuel > 20000:
			want = api.ErrArg
		}
	}
	same(t, "the error", e, want)
	switch {
	case !ast.Same(p, before):
		t.Errorf("%v does not stay", before)
	case e != api.OK && !sameResult(got, api.Result{}):
		t.Errorf("%v beside an error", got)
	case e == api.OK && !sameResult(got, modelled(p, test, fuel)):
		t.Errorf("%s: %v", short(ast.Print(p)), got)
	}
	return e
}

// Rule R1: programs by chance with any part otherwise, any tests' names, any fuel.
func TestWreckedPrograms(t *testing.T) {
	rnd := rand.New(rand.NewSource(5))
	ends := map[api.Errno]int{}
	for i := range 8000 {
		m := maker{rnd: rnd}
		p := m.program()
		tests := append(ast.Names(p, api.NodeTest), ast.Names(p, api.NodeTest)...)
		tests = append(tests, "", "none", m.functions[0].S)
		for range i % 4 {
			p = wreck(rnd, p)
		}
		fuel := []int{1000, 1000, 1000, 0, 20, 20000, 20001, -1, math.MaxInt, math.MinInt}[rnd.Intn(10)]
		ends[answered(t, p, tests[rnd.Intn(len(tests))], fuel)]++
	}
	for _, e := range []api.Errno{api.OK, api.ErrNone, api.ErrArg, api.ErrTwice, api.ErrKnown, api.ErrType, api.ErrCount, api.ErrReturn, api.ErrTree} {
		if ends[e] < 10 {
			t.Errorf("too few of a sort: %v", ends)
		}
	}
}

// wreck is a tree with one part of a node changed to anything.
func wreck(rnd *rand.Rand, p api.Node) api.Node {
	place := rnd.Intn(ast.Count(p))
	n, _ := ast.At(p, place)
	other, _ := ast.At(p, rnd.Intn(ast.Count(p)))
	switch rnd.Intn(9) {
	case 0:
		n.Kind = rnd.Intn(30)
	case 1:
		n.T = rnd.Intn(6) - 1
	case 2:
		n.S = []string{"", "x", other.S, other.S, "?", "+", "!", "int", "1.5"}[rnd.Intn(9)]
	case 3:
		n.N = []int64{0, 1, -1, 2, other.N, 1 << 62, -1 << 63}[rnd.Intn(7)]
	case 4, 5:
		n = other
	case 6:
		if len(n.Kids) > 0 {
			i := rnd.Intn(len(n.Kids))
			n.Kids = append(n.Kids[:i], n.Kids[i+1:]...)
		}
	case 7:
		i := rnd.Intn(len(n.Kids) + 1)
		n.Kids = append(n.Kids[:i], append([]api.Node{other}, n.Kids[i:]...)...)
	case 8:
		rnd.Shuffle(len(n.Kids), func(i, j int) { n.Kids[i], n.Kids[j] = n.Kids[j], n.Kids[i] })
	}
	return ast.Replace(p, place, n)
}

// Rule R1: any trees, of any nodes.
func TestAnyTree(t *testing.T) {
	rnd := rand.New(rand.NewSource(6))
	var any func(depth int) api.Node
	any = func(depth int) api.Node {
		n := api.Node{Kind: rnd.Intn(30), T: rnd.Intn(5) - 1, S: []string{"", "a", "b", "+", "!", "-", "==", "1.5"}[rnd.Intn(8)], N: int64(rnd.Intn(4) - 1)}
		for range rnd.Intn(4) {
			if depth > 0 {
				n.Kids = append(n.Kids, any(depth-1))
			}
		}
		return n
	}
	for range 10000 {
		n := any(4)
		if rnd.Intn(4) > 0 {
			n = program(n.Kids...)
		}
		answered(t, n, "a", rnd.Intn(30))
	}
}

// Rule R1: each part of a program with all kinds of nodes otherwise, one by one.
func TestEachPartOtherwise(t *testing.T) {
	p := treeOf(t, all)
	for place, was := range ast.All(p) {
		put := func(n api.Node) { answered(t, ast.Replace(p, place, n), "t", 1000) }
		put(api.Node{})
		for kind := range 30 {
			n := was
			n.Kind = kind
			put(n)
		}
		for _, s := range []string{"", "g", "f", "t", "a", "+", "-", "*", "%", "<", ">=", "==", "&&", "||", "!"} {
			n := was
			n.S = s
			put(n)
		}
		for _, number := range []int64{0, 1, 2, -1, math.MaxInt64, math.MinInt64} {
			n := was
			n.N = number
			put(n)
		}
		for _, by := range []api.Node{whole(0), truth(0), truth(1), ast.Float("0.0"), tree(api.NodeSkip), block()} {
			put(by)
		}
	}
}

// Rule R1: trees that are very deep, and very wide.
func TestGreatTrees(t *testing.T) {
	deep, wide := whole(1), block()
	for range 50000 {
		deep = named(api.NodeUnary, "-", deep)
		wide.Kids = append(wide.Kids, tree(api.NodeSkip))
	}
	for _, p := range []api.Node{deep, wide, program(named(api.NodeTest, "t", wide)), program(named(api.NodeTest, "t", block(named(api.NodeDefine, "x", deep)))), program(wide.Kids...)} {
		if got, e := Run(p, "t", 100); e != api.ErrTree || !sameResult(got, api.Result{}) {
			t.Errorf("%v, error %d", got, e)
		}
	}
}
