package graph

import (
	"slices"
	"testing"

	"cupel/api"
	"cupel/ast"
)

const (
	lawV = "var v int = 1; "
	lawW = "var w int = 1; "
	lawF = "func f() int { return g(); } "
	lawG = "func g() int { return v; } "
	lawH = "func h() int { w = 2; return 1; } "
	lawT = "test t { assert f() == 1; } "
	lawU = "test u { assert h() == 1; } "
	lawS = "test s { skip; } "
	laws = lawV + lawW + lawF + lawG + lawH + lawT + lawU + lawS
)

// Promise 16.1: behind itself no test of a program is to be run again, nor where declarations are put in another order.
func TestSelectNothing(t *testing.T) {
	selected(t, laws, laws, "")
	selected(t, lawS+lawT+lawH+lawU+lawG+lawF+lawW+lawV, laws, "")
	selected(t, laws, laws+"func more() int { return f(); } var x int = 1; ", "")
	selected(t, laws+"func more() int { return f(); } var x int = 1; ", laws, "")
	p := treeOf(t, laws)
	same(t, "a list of none", len(Select(p, p)), 0)
}

// Promise 16.1: a test of old has gone: it is not told; one that was not there is.
func TestSelectOtherTests(t *testing.T) {
	selected(t, lawV+lawW+lawF+lawG+lawH+lawT+lawS, laws, "")
	selected(t, laws, lawV+lawW+lawF+lawG+lawH+lawT, "u s")
	selected(t, laws+"test a { } test z { }", laws, "a z")
	selected(t, lawS+"test new { assert true; }", lawS, "new")
	selected(t, lawS, "test s2 { skip; }", "s")
	selected(t, lawS, "func s() int { return 1; }", "s")
	selected(t, lawS, "var s int = 1;", "s")
}

// Promise 16.1: without tests there is nothing; behind a program without tests, or behind none, it is all tests.
func TestSelectWithoutTests(t *testing.T) {
	selected(t, lawV+lawG, laws, "")
	selected(t, lawV+lawG, "", "")
	selected(t, "", laws, "")
	selected(t, "", "", "")
	selected(t, laws, lawV+lawG, "t u s")
	selected(t, laws, "", "t u s")
	p := treeOf(t, laws)
	sameNames(t, "behind no program", Select(p, api.Node{}), "t", "u", "s")
	sameNames(t, "no program behind one", Select(api.Node{}, p))
	sameNames(t, "no programs", Select(api.Node{}, api.Node{}))
}

// Promise 16.1: a test that is itself changed, one whose function is, one whose function's function is, one whose global is, one that assigns a global.
func TestSelectChanged(t *testing.T) {
	selected(t, lawV+lawW+lawF+lawG+lawH+"test t { assert f() == 2; } "+lawU+lawS, laws, "t")
	selected(t, lawV+lawW+lawF+lawG+lawH+lawT+lawU+"test s { }", laws, "s")
	selected(t, lawV+lawW+"func f() int { return g() + 0; } "+lawG+lawH+lawT+lawU+lawS, laws, "t")
	selected(t, lawV+lawW+lawF+"func g() int { return v + 0; } "+lawH+lawT+lawU+lawS, laws, "t")
	selected(t, "var v int = 2; "+lawW+lawF+lawG+lawH+lawT+lawU+lawS, laws, "t")
	selected(t, lawV+"var w int = 2; "+lawF+lawG+lawH+lawT+lawU+lawS, laws, "u")
	selected(t, "var v int = 2; var w int = 2; "+lawF+lawG+lawH+lawS+lawU+lawT, laws, "u t")
	selected(t, "var v int = 1; var w float = 1.0; func h() int { w = 2.0; return 1; } "+lawF+lawG+lawT+lawU+lawS, laws, "u")
}

// Promise 16.1: what a test used and does not use any more, and what it uses now.
func TestSelectOtherUses(t *testing.T) {
	selected(t, lawV+lawW+"func f() int { return v; } "+lawG+lawH+lawT+lawU+lawS, laws, "t")
	selected(t, lawV+lawW+lawF+lawG+"func h() int { w = 2; return g(); } "+lawT+lawU+lawS, laws, "u")
	const one = "func one(x int) int { if x > 0 { return two(x - 1); } return 0; } func two(x int) int { return one(x); } "
	selected(t, one+"test t { one(3); }", one+"test t { two(3); }", "t")
	selected(t, one+"test t { one(3); } test u { two(3); }", "func one(x int) int { if x > 0 { return two(x - 2); } return 0; } func two(x int) int { return one(x); } test t { one(3); } test u { two(3); }", "t u")
}

// Promise 16.1: the tests stand in the order that they have in p, whatever they are called and wherever they stood.
func TestSelectInOrder(t *testing.T) {
	old := "test a { } test b { } test c { } test d { } test e { }"
	selected(t, "test d { skip; } test b { } test e { skip; } test a { skip; } test c { } test new { }", old, "d e a new")
	selected(t, "test new { } test e { } test d { skip; }", old, "new d")
}

// Promise 16.1: a variable that has the name of a function that is changed, and a test that has it.
func TestSelectWithNamesOfOthers(t *testing.T) {
	const user = "test t { f := 1; assert f == 1; } test u { f(); } test f2 { } "
	selected(t, user+"func f() int { return 2; }", user+"func f() int { return 1; }", "u")
}

// Promise 16.1: just the tests whose closures have what is changed, for each turn of each node.
func TestSelectByTurns(t *testing.T) {
	p := treeOf(t, someText)
	for _, d := range p.Kids {
		var want []string
		for _, name := range ast.Names(p, api.NodeTest) {
			if slices.Contains(Closure(p, name), d.S) {
				want = append(want, name)
			}
		}
		for _, q := range changedBy(p, d.S) {
			sameNames(t, short(ast.Print(q)), Select(q, p), want...)
		}
	}
}
