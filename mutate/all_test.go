package mutate

import (
	"slices"
	"strconv"
	"testing"

	"cupel/api"
	"cupel/ast"
)

// Example 1: return a + 1: two mutants.
func TestExample(t *testing.T) {
	p := lists(t, "func f(a int) int { return a + 1; }", "f4.0 f6.0")
	for i, want := range []string{"(a - 1)", "(a + 2)"} {
		got, e := Apply(p, List(p)[i])
		same(t, "the error", e, api.OK)
		same(t, "the text", ast.Print(got), "func f(a int) int { return "+want+"; }\n")
	}
}

// Promise 15.1: function by function, node by node, turn by turn, counted by hand: the function is 0, then come its parameters, its block, and what is in it.
func TestOrder(t *testing.T) {
	lists(t, "func f() int { return 2; }", "f3.0 f3.1")
	lists(t, "func f() int { return 0; }", "f3.0")
	lists(t, "func f(a int, b float, c bool) bool { return c; }", "")
	lists(t, "func f(a int, b float, c bool) bool { return !c; }", "f6.0")
	lists(t, "func f(a int) bool { return a < 5 && a >= -7; }", "f4.0 f5.0 f5.1 f7.0 f7.1 f8.0 f8.1 f10.0 f11.0 f11.1")
	lists(t, "func f() float { x := 1.5; x = x * -0.0; f(); return x; }", "f3.0 f4.0 f5.0 f7.0 f8.0 f9.0")
	lists(t, "func f(a int) int { if a == 0 { f(1); } else { skip; } for false { a = g(a, 3); } return int(float(a)); } func g(a int, b int) int { return a % b; }",
		"f4.0 f6.0 f8.0 f10.0 f14.0 f16.0 f19.0 f19.1 g5.0")
}

// Promise 15.1: functions in the order of the program, whatever their names, with tests and globals between them.
func TestOrderOfFunctions(t *testing.T) {
	lists(t, "test a { z(); } func z() int { return 2; } var g int = 5; func b() bool { return true; } test t { assert 1 == 2; } func a1() int { g = 1; return 1; }",
		"z3.0 z3.1 b3.0 a12.0 a13.0 a15.0")
}

// Promise 15.1: programs with no function have no mutants.
func TestNoFunctions(t *testing.T) {
	lists(t, "", "")
	lists(t, "var a int = 5; var b float = -1.5; var c bool = true;", "")
	lists(t, "test t { assert 1 + 1 == 2; }", "")
	lists(t, "var a int = 5; test t { a = -3; assert a < 2 && !false || 1.0 == 2.0; x := 7 % 2; }", "")
	for _, n := range []api.Node{{}, whole(5), skip(), block(named(api.NodeAssign, "x", whole(1)))} {
		same(t, "no program", len(List(n)), 0)
	}
}

// Promise 15.1: with just as many as MaxSites all are there, with more the first of them, wherever the last one stands.
func TestMaxSites(t *testing.T) {
	same(t, "MaxSites", api.MaxSites, 400)
	for _, most := range []int{1000, 31, 25, 20} {
		for _, mutants := range []int{1, 399, 400, 401, 402, 430} {
			got := List(manyMutants(t, mutants, most))
			same(t, "how many", len(got), min(mutants, 400))
			for i, m := range got {
				same(t, "a mutant", m, api.Mutant{Func: "f" + strconv.Itoa(i/most), Node: 3 + 2*(i%most)})
			}
		}
	}
}

// manyMutants is the tree of a program with so many mutants, at most so many in one function: that of a text, if a text may have so many statements in a block.
func manyMutants(t *testing.T, mutants, most int) api.Node {
	t.Helper()
	if most <= 31 {
		return treeOf(t, wide(mutants, most))
	}
	f := typed(api.NodeFunc, 1, "f0", typed(api.NodeParam, 1, "x"), block())
	for range mutants {
		f.Kids[1].Kids = append(f.Kids[1].Kids, named(api.NodeAssign, "x", variable("x")))
	}
	return program(f)
}

// Promise 15.1: of a node with two turns the first one alone may be the last of all.
func TestMaxSitesBetweenTurns(t *testing.T) {
	for ahead, want := range map[int]int{398: 400, 399: 400, 400: 400, 397: 399} {
		p := treeOf(t, wide(ahead, 31)+"func z(a int) bool { return a < a; }")
		got := List(p)
		same(t, "how many", len(got), want)
		same(t, "of z", len(slices.DeleteFunc(got, func(m api.Mutant) bool { return m.Func != "z" })), max(0, want-ahead))
	}
}

// Promise 15.1: All may be left at any of them, begun again, and gone over within itself; List is All.
func TestAllMayBeLeft(t *testing.T) {
	for _, s := range []string{"func f(a int) bool { return a < 5 && a >= -7; } func g() int { return 2; }", wide(405, 31)} {
		p := treeOf(t, s)
		all, list := All(p), List(p)
		for end := range list {
			var seen []api.Mutant
			for m := range all {
				seen = append(seen, m)
				if len(seen) == end+1 {
					break
				}
			}
			same(t, "the first ones", told(seen), told(list[:end+1]))
		}
		for range 2 {
			same(t, "List", told(slices.Collect(all)), told(list))
		}
		calls := 0
		all(func(api.Mutant) bool { calls++; return false })
		same(t, "none behind a no", calls, 1)
		pairs := 0
		for range all {
			for range all {
				pairs++
			}
		}
		same(t, "within one another", pairs, len(list)*len(list))
	}
	for range All(api.Node{}) {
		t.Error("nothing has a mutant")
	}
}

// Rule R2: All is of the program at the call; what was handed in stays, and what List answers is the caller's own.
func TestAllIsTheCallersOwn(t *testing.T) {
	p := treeOf(t, "func f(a int) bool { return a < 5 && a >= -7; } func g() int { return 2; }")
	was := ast.Clone(p)
	all, list := All(p), List(p)
	want := told(list)
	sameTree(t, "the program", p, was)
	spoil(&p)
	same(t, "when the program is changed", told(slices.Collect(all)), want)
	same(t, "List, when the program is changed", told(list), want)
	clear(list)
	same(t, "List again", told(List(was)), want)
}

// Promise 15.1: the types of expressions do not count.
func TestMutantsOfACheckedProgram(t *testing.T) {
	p := treeOf(t, "func f(a int) bool { return a < 5 && a >= -7; } func g() float { x := 2.5; x = -x; g(); return x; }")
	same(t, "with types", told(List(typesOf(t, p))), told(List(p)))
}
