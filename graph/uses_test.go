package graph

import (
	"testing"

	"cupel/api"
)

// Promise 16.1: functions that are called, wherever the call stands.
func TestUsesOfCalls(t *testing.T) {
	for _, s := range []string{
		"return g(2) == 1;", "x := g(1); return true;", "g(1); return true;", "x := 1; x = g(x); return true;",
		"assert g(1) < 2; return true;", "if g(1) == 1 { skip; } return true;", "if true { g(1); } return true;",
		"if true { skip; } else { g(1); } return true;", "if true { skip; } else if g(1) == 2 { skip; } return true;",
		"for g(1) == 2 { skip; } return true;", "for false { g(1); } return true;", "return false && -g(1) < 5;",
		"return !(g(1) == 1);", "return float(g(1)) < 1.0;", "return true || h(g(1));", "return true; g(1);",
	} {
		p := treeOf(t, "func g(x int) int { return x; } func h(x int) bool { return x == 0; } func other() int { return g(1); } func f() bool { "+s+" return true; }")
		want := "g"
		if s == "return true || h(g(1));" {
			want = "g h"
		}
		usesOf(t, p, "f", want)
		usesOf(t, typesOf(t, p), "f", want)
	}
}

// Promise 16.1: a declaration that uses nothing, one that uses itself, two that use each other.
func TestUsesOfNothingAndItself(t *testing.T) {
	p := treeOf(t, "var v int = 1; func one() int { return 1; } func self(x int) int { if x > 0 { return self(x - 1); } return 0; } func a() int { return b(); } func b() int { return a(); } test t { skip; } test u { }")
	usesOf(t, p, "v", "")
	usesOf(t, p, "one", "")
	usesOf(t, p, "self", "self")
	usesOf(t, p, "a", "b")
	usesOf(t, p, "b", "a")
	usesOf(t, p, "t", "")
	usesOf(t, p, "u", "")
	same(t, "a list of none", len(Uses(p, "t")), 0)
}

// Promise 16.1: uses go one step far; those of what is used do not count.
func TestUsesGoOneStep(t *testing.T) {
	p := treeOf(t, "var v int = 1; func g() int { return v; } func f() int { return g(); } test t { assert f() == 1; }")
	usesOf(t, p, "t", "f")
	usesOf(t, p, "f", "g")
	usesOf(t, p, "g", "v")
	usesOf(t, p, "v", "")
}

// Promise 16.1: a global that is read, one that is assigned alone, one that is both; one whose value reads nothing.
func TestUsesOfGlobals(t *testing.T) {
	p := treeOf(t, "var read int = -1; var set float = -1.5; var both int = 2; var no bool = true; test t { set = float(read); } test u { both = both + 1; } test v { if read == 1 { set = 2.0; } }")
	usesOf(t, p, "t", "read set")
	usesOf(t, p, "u", "both")
	usesOf(t, p, "v", "read set")
	for _, name := range []string{"read", "set", "both", "no"} {
		usesOf(t, p, name, "")
	}
	usesOf(t, treeOf(t, "test t { set = 1; } var set int = 0;"), "t", "set")
	usesOf(t, treeOf(t, "test t { assert set == 1; } var set int = 0;"), "t", "set")
}

// Promise 16.1: the names are sorted by their bytes, and each is told once, however often it is used.
func TestUsesAreSorted(t *testing.T) {
	p := treeOf(t, "func z() int { return 1; } func a() int { return 1; } func b10() int { return 1; } func b9() int { return 1; } func Z() int { return 1; } var _ int = 1; var ab int = 1; var b int = 2; "+
		"func f() int { z(); b9(); ab = z() + a() + z(); ab = ab + b9() + b10() + Z(); return _ + _ + b + a() + f(); }")
	usesOf(t, p, "f", "Z _ a ab b b10 b9 f z")
}

// Promise 16.1: parameters and variables that have a function's or a test's name: they are read, and assigned, but nothing is called.
func TestNamesOfFunctions(t *testing.T) {
	const all = "func g() int { return 1; } func h(g int, f int) int { g = g + f; return g; } test u { } "
	for s, want := range map[string]string{
		"g := 1; assert g == 1;":                     "",
		"g := 1; g = g + 1;":                         "",
		"g := g(); assert g == 1;":                   "g",
		"g := 1; assert g == g();":                   "g",
		"if true { g := 2; g = 3; } g();":            "g",
		"h := g(); assert h == 1;":                   "g",
		"u := 1; t := u; assert t + u == 2;":         "",
		"f := h(1, 2); g := f; h := g; h = f + g;":   "h",
		"g := 1; h := 2; assert h(g, h) == h(h, g);": "h",
	} {
		p := treeOf(t, all+"test t { "+s+" }")
		usesOf(t, p, "t", want)
		usesOf(t, typesOf(t, p), "t", want)
		usesOf(t, p, "h", "")
	}
	p := treeOf(t, "func f(f int) int { return f; } func g(f int) int { return f(f); } func f2(g int) int { g = 1; return g; }")
	usesOf(t, p, "f", "")
	usesOf(t, p, "g", "f")
	usesOf(t, p, "f2", "")
}

// Promise 16.1: no parameter and no variable may have a global's name (check rejects it): such a name is the global's.
func TestNamesOfGlobals(t *testing.T) {
	usesOf(t, rejected(t, "var v int = 1; func f(v int) int { return v; }"), "f", "v")
	usesOf(t, rejected(t, "var v int = 1; func f(v int) int { return 1; }"), "f", "")
	usesOf(t, rejected(t, "var v int = 1; test t { v := 1; }"), "t", "")
	usesOf(t, rejected(t, "var v int = 1; test t { v := 1; v = 2; }"), "t", "v")
	// A name of another kind than it is used as is none that is used.
	usesOf(t, rejected(t, "var v int = 1; test t { v(); }"), "t", "")
	usesOf(t, rejected(t, "func g() int { return 1; } test t { g = g; }"), "t", "")
	usesOf(t, rejected(t, "test u { } test t { u(); u = u; t(); }"), "t", "")
	usesOf(t, rejected(t, "test t { w = x + y(z); }"), "t", "")
}

// Promise 16.1: what a program has by itself, int and float, is no declaration.
func TestUsesOfConversions(t *testing.T) {
	p := treeOf(t, "var v float = 1.0; func g() int { return 1; } test t { assert int(1.5) == int(float(2)); } test u { assert int(v) == int(float(g())); }")
	usesOf(t, p, "t", "")
	usesOf(t, p, "u", "g v")
	q := program(named(api.NodeTest, "t", block(tree(api.NodeDo, named(api.NodeCall, "int", whole(1))), tree(api.NodeDo, named(api.NodeCall, "assert")))))
	usesOf(t, q, "t", "")
}

// Promise 16.1: of names that no declaration has, the empty one too, there is nothing; nor of names that are known within declarations alone.
func TestUsesOfNoDeclaration(t *testing.T) {
	p := treeOf(t, "var v int = 1; func f(a int) int { x := a + v; return f(x); } test t { assert f(1) == 1; }")
	for _, name := range []string{"", "a", "x", "F", "T", "f ", " f", "ff", "int", "+", "func", "\x00", "f\x00"} {
		usesOf(t, p, name, "")
		closureOf(t, p, name, "")
	}
	for _, q := range []api.Node{{}, program(), p.Kids[1], whole(5), named(api.NodeFunc, "f")} {
		usesOf(t, q, "f", "")
		usesOf(t, q, "", "")
		closureOf(t, q, "f", "")
		closureOf(t, q, "", "")
	}
}
