package kill

import (
	"math"
	"math/rand"
	"strconv"
	"testing"

	"cupel/api"
	"cupel/ast"
	"cupel/check"
	"cupel/interp"
	"cupel/mutate"
)

// Promises 17.1 and T1: each cell of chance programs is how that test ends on that mutant alone, 0 where it does not pass on the program.
func TestMatricesByChance(t *testing.T) {
	rnd := chance(5)
	tally := map[int]int{}
	for i := range 36 {
		p := sharpened(t, rnd)
		fuel := []int{api.Fuel, 500, 100}[i%3]
		got := matrixOf(t, p, fuel)
		for cell, n := range byRuns(t, p, fuel, got, someRows(rnd, got)...) {
			tally[cell] += n
		}
		alike(t, "the same again", matrixOf(t, p, fuel), got)
		takes(t, "its bytes", put(t, got), got)
		counted(t, got)
		notComeTo(t, p, fuel, got)
	}
	if tally[0] < 100 || tally[api.Pass] < 500 || tally[api.TrapAssert] < 50 || tally[api.TrapFuel] < 10 {
		t.Errorf("too few of a sort: %v", tally)
	}
}

// sharpened is a chance program with some tests more, which hold what functions answer against just that, so that mutants of these are killed.
func sharpened(t *testing.T, rnd *rand.Rand) api.Node {
	t.Helper()
	m := maker{rnd: rnd}
	p := m.program()
	m.known, m.read, m.called = nil, nil, m.functions
	for i := range 4 {
		call := m.call(m.functions[rnd.Intn(len(m.functions))], 1)
		f, _ := ast.Find(p, call.S)
		if claim, is := claimOf(p, f.T, call); is {
			p.Kids = append(p.Kids, named(api.NodeTest, "sharp"+strconv.Itoa(i), block(tree(api.NodeAssert, claim))))
		}
	}
	return p
}

// claimOf is an assertion that tells a call's value; none, if it has none.
func claimOf(p api.Node, t int, call api.Node) (api.Node, bool) {
	var list []api.Node
	switch t {
	case api.TypeBool:
		list = []api.Node{call, named(api.NodeUnary, "!", call)}
	case api.TypeFloat:
		list = []api.Node{bin(call, "!=", call), bin(call, "==", ast.Float("0.0")), bin(call, ">", ast.Float("0.0")), bin(call, "<", ast.Float("0.0"))}
	case api.TypeInt:
		list = []api.Node{bin(call, "==", nearest(p, call))}
	}
	for _, claim := range list {
		if holds(p, claim) {
			return claim, true
		}
	}
	return api.Node{}, false
}

// nearest is a literal, perhaps with a sign, that is a whole number's value, if it has one.
func nearest(p api.Node, call api.Node) api.Node {
	literal := func(n int64) api.Node {
		if n < 0 {
			return named(api.NodeUnary, "-", whole(-n))
		}
		return whole(n)
	}
	low, above := int64(math.MinInt64+1), int64(math.MaxInt64)
	for low < above {
		middle := low/2 + above/2 + (low%2+above%2)/2
		if middle == above {
			middle-- // the halves are cut towards nought
		}
		if holds(p, bin(call, ">", literal(middle))) {
			low = middle + 1
		} else {
			above = middle
		}
	}
	return literal(low)
}

// holds tells whether an assertion holds in a program.
func holds(p api.Node, claim api.Node) bool {
	p = ast.Clone(p)
	p.Kids = append(p.Kids, named(api.NodeTest, "probe", block(tree(api.NodeAssert, claim))))
	return Outcome(p, "probe", api.Fuel) == api.Pass
}

// counted holds what Count tells against cells that are counted one by one.
func counted(t *testing.T, m api.Matrix) {
	t.Helper()
	killed := 0
	for _, row := range m.Cells {
		kills := 0
		for _, cell := range row {
			if cell >= api.TrapAssert && cell <= api.TrapFuel {
				kills++
			}
		}
		killed += min(kills, 1)
	}
	counts(t, "a program by chance", m, len(m.Mutants), killed)
}

// notComeTo tells that a test passes on mutants to whose nodes it does not come.
func notComeTo(t *testing.T, p api.Node, fuel int, m api.Matrix) {
	t.Helper()
	for k, name := range m.Tests {
		r, _ := interp.Run(p, name, fuel)
		for i, x := range m.Mutants {
			if m.Base[k] == api.Pass && !interp.Covers(r, api.Site{Name: x.Func, Node: x.Node}) {
				same(t, "a mutant that "+name+" does not come to", m.Cells[i][k], api.Pass)
			}
		}
	}
}

// Promise 17.1: a matrix has what the program's parts have, wherever they stand: tests and functions in another order.
func TestMatricesInAnotherOrder(t *testing.T) {
	rnd := chance(6)
	for range 20 {
		maker := maker{rnd: rnd}
		p := maker.program()
		cells := cellsByNames(matrixOf(t, p, 300))
		rnd.Shuffle(len(p.Kids), func(i, j int) { p.Kids[i], p.Kids[j] = p.Kids[j], p.Kids[i] })
		m := matrixOf(t, p, 300)
		if len(m.Mutants) == api.MaxSites {
			continue // others may have been left out
		}
		for of, cell := range cellsByNames(m) {
			if was, is := cells[of]; !is || was != cell {
				t.Fatalf("%s: %v: %d, not %d", ast.Print(p), of, cell, was)
			}
		}
	}
}

// spot is a cell's mutant and test.
type spot struct {
	mutant api.Mutant
	test   string
}

func cellsByNames(m api.Matrix) map[spot]int {
	cells := map[spot]int{}
	for i, x := range m.Mutants {
		for k, name := range m.Tests {
			cells[spot{x, name}] = m.Cells[i][k]
		}
	}
	return cells
}

// wreck is a tree with one part of a node changed to anything.
func wreck(rnd *rand.Rand, p api.Node) api.Node {
	place := rnd.Intn(ast.Count(p))
	n, _ := ast.At(p, place)
	other, _ := ast.At(p, rnd.Intn(ast.Count(p)))
	switch rnd.Intn(8) {
	case 0:
		n.Kind = rnd.Intn(30)
	case 1:
		n.T = rnd.Intn(6) - 1
	case 2:
		n.S = []string{"", "x", other.S, other.S, "?", "+", "int"}[rnd.Intn(7)]
	case 3:
		n.N = []int64{0, 1, -1, 2, other.N, 1 << 62, -1 << 63}[rnd.Intn(7)]
	case 4, 5:
		n = other
	case 6:
		if len(n.Kids) > 0 {
			i := rnd.Intn(len(n.Kids))
			n.Kids = append(n.Kids[:i], n.Kids[i+1:]...)
		}
	case 7:
		i := rnd.Intn(len(n.Kids) + 1)
		n.Kids = append(n.Kids[:i], append([]api.Node{other}, n.Kids[i:]...)...)
	}
	return ast.Replace(p, place, n)
}

// answered tells that all calls answer of any tree.
func answered(t *testing.T, p api.Node) api.Errno {
	t.Helper()
	for _, d := range append([]api.Node{{}}, p.Kids...) {
		Outcome(p, d.S, 50)
		ends(t, "fuel that may not be", p, d.S, -1, 0)
	}
	_, _, want := check.Program(p)
	if want != api.OK {
		refuses(t, "a wrecked one", p, 50, want)
		refuses(t, "a wrecked one", p, -1, want)
		return want
	}
	refuses(t, "fuel that may not be", p, -1, api.ErrArg)
	m := matrixOf(t, p, 50)
	byRuns(t, p, 50, m, someRows(chance(1), m)...)
	return want
}

// Rule R1: programs by chance with any part otherwise.
func TestWreckedPrograms(t *testing.T) {
	rnd := chance(7)
	tally := map[api.Errno]int{}
	for range 100 {
		m := maker{rnd: rnd}
		p := m.program()
		if len(mutate.List(p)) > 100 {
			continue // as small ones do, and take less time
		}
		for range 3 {
			p = wreck(rnd, p)
			tally[answered(t, p)]++
		}
	}
	for _, e := range []api.Errno{api.OK, api.ErrTree, api.ErrKnown, api.ErrType} {
		if tally[e] < 5 {
			t.Errorf("too few of a sort: %v", tally)
		}
	}
}

// Rule R1: any trees, of any nodes.
func TestAnyTree(t *testing.T) {
	rnd := chance(8)
	var any func(depth int) api.Node
	any = func(depth int) api.Node {
		n := api.Node{Kind: rnd.Intn(30), T: rnd.Intn(5) - 1, S: []string{"", "a", "b", "c", "+", "1.5"}[rnd.Intn(6)], N: int64(rnd.Intn(4) - 1)}
		for range rnd.Intn(4) {
			if depth > 0 {
				n.Kids = append(n.Kids, any(depth-1))
			}
		}
		return n
	}
	for range 1000 {
		n := any(4)
		answered(t, n)
		n.Kind = api.NodeProgram
		answered(t, n)
	}
	answered(t, api.Node{})
}

// Rule R1: programs that are very deep, and very wide, much beyond what a text may have.
func TestGreatPrograms(t *testing.T) {
	deep := truth(1)
	for range 1<<16 - 100 {
		deep = named(api.NodeUnary, "!", deep)
	}
	p := program(named(api.NodeTest, "t", block(tree(api.NodeAssert, deep))))
	_, _, e := check.Program(p)
	refuses(t, "deep", p, 100, e)
	ends(t, "deep", p, "t", 100, 0)
	var broad api.Node
	broad.Kind = api.NodeProgram
	for range 100000 {
		broad.Kids = append(broad.Kids, named(api.NodeTest, "t", block()))
	}
	_, _, e = check.Program(broad)
	refuses(t, "broad", broad, 100, e)
	ends(t, "broad", broad, "t", 100, 0)
}
