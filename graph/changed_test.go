package graph

import (
	"testing"

	"cupel/api"
	"cupel/ast"
)

// Promise 16.1: between a program and itself nothing is changed, nor where declarations alone are put in another order, or the text is laid otherwise.
func TestChangedNothing(t *testing.T) {
	const v, f, u = "var v int = 1; ", "func f(a int) int { return a + v * 2; } ", "test u { assert f(1) == 3; } "
	for _, s := range []string{v + f + u, v + u + f, f + v + u, f + u + v, u + v + f, u + f + v} {
		changed(t, v+f+u, s, "")
	}
	changed(t, v+f+u, "var v int=1;func f(a int)int{// a note\nreturn(a+(v*2));}test u{assert((f(1)==3));}", "")
	changed(t, "", "", "")
	changed(t, "var v float = 1.50;", "var v float = 1.5;", "")
	sameNames(t, "no programs", Changed(api.Node{}, api.Node{}))
}

// Promise 16.1: names that are in one alone, from either side, sorted.
func TestChangedInOneAlone(t *testing.T) {
	changed(t, "var v int = 1;", "", "v")
	changed(t, "func f() int { return 1; }", "", "f")
	changed(t, "test t { }", "", "t")
	changed(t, "var v int = 1; func f() int { return 1; } test t { }", "", "f t v")
	changed(t, "func b() int { return 1; } func both() int { return 1; }", "func both() int { return 1; } func a() int { return 1; }", "a b")
	changed(t, "func z() int { return 1; } func a() int { return 1; }", "func Z() int { return 1; } func a10() int { return 1; } func a9() int { return 1; }", "Z a a10 a9 z")
	changed(t, "func f() int { return 1; }", "func g() int { return 1; }", "f g")
	p := treeOf(t, "var v int = 1; test t { }")
	sameNames(t, "and no program", Changed(p, api.Node{}), "t", "v")
	sameNames(t, "no program, and it", Changed(api.Node{}, p), "t", "v")
}

// Promise 16.1: declarations that are otherwise in the other one: by their kinds, types, parameters, literals and blocks.
func TestChangedOtherwise(t *testing.T) {
	changed(t, "var v int = 1;", "var v int = 2;", "v")
	changed(t, "var v int = 1;", "var v int = -1;", "v")
	changed(t, "var v int = 1;", "var v float = 1.0;", "v")
	changed(t, "var v float = 0.0;", "var v float = -0.0;", "v")
	changed(t, "var v bool = true;", "var v bool = false;", "v")
	changed(t, "var x int = 1;", "func x() int { return 1; }", "x")
	changed(t, "var x int = 1;", "test x { }", "x")
	changed(t, "test x { }", "func x() int { return 1; }", "x")
	changed(t, "func f(a int) int { return 1; }", "func f(b int) int { return 1; }", "f")
	changed(t, "func f(a int) int { return 1; }", "func f(a float) int { return 1; }", "f")
	changed(t, "func f(a int) int { return 1; }", "func f() int { return 1; }", "f")
	changed(t, "func f() int { return 1; }", "func f() float { return 1.0; }", "f")
	changed(t, "func f() int { return 1 + 2; }", "func f() int { return 2 + 1; }", "f")
	changed(t, "func f() int { return int(1.0); }", "func f() int { return int(float(1.0)); }", "f")
	changed(t, "func f() float { return float(1); }", "func f() float { return float(1) + 0.0; }", "f")
	changed(t, "test t { }", "test t { skip; }", "t")
	changed(t, "test t { assert 1 == 1; }", "test t { assert 1 == 1; assert 1 == 1; }", "t")
	changed(t, "var a int = 1; var b int = 2; var c int = 3;", "var c int = 3; var b int = 1; var a int = 2;", "a b")
}

// Promise 16.1: who uses what is changed is not changed by that.
func TestChangedGoesNoStep(t *testing.T) {
	const f, u = "func f() int { return g(); } ", "test u { assert f() == 1; } "
	changed(t, f+u+"func g() int { return 1; }", f+u+"func g() int { return 2; }", "g")
	changed(t, "var v int = 1; test t { assert v == v; }", "var v bool = true; test t { assert v == v; }", "v") // the types of t's expressions are found, not told by its text
}

// Promise 16.1: each turn of each node is a change of its declaration alone.
func TestChangedByTurns(t *testing.T) {
	p := treeOf(t, someText)
	for _, d := range p.Kids {
		for _, q := range changedBy(p, d.S) {
			sameNames(t, short(ast.Print(q)), Changed(p, q), d.S)
			sameNames(t, short(ast.Print(q)), Changed(q, p), d.S)
		}
	}
}
