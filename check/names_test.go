package check

import (
	"testing"

	"cupel/api"
)

// Promise 12.1: the chapter's example.
func TestExample(t *testing.T) {
	n := treeOf(t, "func f() int { return 1.0; }")
	rejects(t, "the example", n, 0, api.ErrType)
	taken(t, "func f() int { return 1; }")
	taken(t, "func f() float { return 1.0; }")
}

// Promise 12.1: what is no program is no tree of one, at place 0.
func TestNoProgram(t *testing.T) {
	rejects(t, "nothing", api.Node{}, 0, api.ErrTree)
	for kind := -3; kind < 40; kind++ {
		if kind == api.NodeProgram {
			continue
		}
		rejects(t, "a node of another kind", node(kind), 0, api.ErrTree)
		rejects(t, "a node of another kind with declarations", node(kind, testOf("t", block()), testOf("t", block())), 0, api.ErrTree)
	}
	rejects(t, "a program with a type", api.Node{Kind: api.NodeProgram, T: api.TypeInt}, 0, api.ErrTree)
	rejects(t, "a program with a text", api.Node{Kind: api.NodeProgram, S: "p"}, 0, api.ErrTree)
	rejects(t, "a program with a number", api.Node{Kind: api.NodeProgram, N: 1, Kids: []api.Node{testOf("t", block())}}, 0, api.ErrTree)
	accepts(t, "a program of nothing", program())
	accepts(t, "a program of an empty list", api.Node{Kind: api.NodeProgram, Kids: []api.Node{}})
}

// Promise 12.1: no two declarations have one name, of whatever kinds; the later one is told, ahead of all else that is wrong with it.
func TestTwoDeclarations(t *testing.T) {
	kinds := []string{"var x int = 1;", "func x() int { return 1; }", "test x { }"}
	wrong := []string{"var x int = 1.5;", "func x() int { y = 1; }", "func x(ahead_1 int) int { }", "test x { return 1; }", "test x { assert 1; }"}
	for _, first := range kinds {
		for _, second := range append(kinds, wrong...) {
			refused(t, first+" "+second, 1, api.ErrTwice)
			refused(t, "var y int = 1; "+first+" test z { } "+second+" "+second, 3, api.ErrTwice)
		}
	}
	refused(t, "test x { } test y { } test y { } test x { }", 2, api.ErrTwice)
	taken(t, "test x { } test X { } test x1 { } test _x { } test xx { }")
}

// Promise 12.1: of twice declared names the first one counts for those that use it ahead of the second.
func TestTwoDeclarationsUsed(t *testing.T) {
	refused(t, "var g int = 1; func f() int { return g; } var g float = 1.5;", 2, api.ErrTwice)
	refused(t, "func f() int { return g; } var g int = 1; var g float = 1.5;", 2, api.ErrTwice)
	refused(t, "test t { f(1); } func f(a int) int { return a; } func f() int { return 1; }", 2, api.ErrTwice)
	refused(t, "test t { f(); } func f(a int) int { return a; } func f() int { return 1; }", 0, api.ErrCount)
	refused(t, "test t { x := f() + 1; } func f() int { return 1; } func f() float { return 1.5; }", 2, api.ErrTwice)
	refused(t, "test t { x := f(); x = g; } func f() int { return 1; } var f int = 1; var g int = 2;", 2, api.ErrTwice)
}

// Promise 12.1: a variable must be known, wherever it is read or assigned.
func TestUnknownVariables(t *testing.T) {
	for _, s := range []string{
		"y = 1;", "x := y;", "x := x;", "assert y;", "assert !y;", "if y { }", "for y { }", "if true { } else if y { }", "x := -y;", "x := 1 + y;", "x := y + 1;", "x := int(y);", "x := float(y);", "f(y);", "x := f(y);", "x := 1; x = y;", "y = y;", "x := 1; y = x;",
		"f(1, y);", "x := 1 == y;", "x := (true && (1 < f(int(-y))));", "y = 1; y := 2;", "x := y; y := 1;",
		"f = 1;", "x := f;", "assert g;", "g = 1;", "t = 1;", "x := t;", "Y := 1; y = 2;", // functions and tests are no variables
		"if true { y := 1; } y = 2;", "if true { y := 1; } else { y = 2; }", "if true { } else { y := 1; } y = 2;", "for false { y := 1; } y = 2;", "for y { y := true; }", "if y { y := true; }",
		"if true { y := 1; } if true { y = 2; }", "if true { if true { y := 1; } y = 2; }", "for true { for true { y := 1; } x := y; }", "if true { y := 1; } else if y == 1 { }", "if true { } else if true { y := 1; } else { y = 1; }",
	} {
		refused(t, "test t { "+s+" } func f(a int) int { return a; } func g() bool { return true; }", 0, api.ErrKnown)
		refused(t, "func f(a int) int { "+s+" return a; } func g() bool { return true; } test t { }", 0, api.ErrKnown)
	}
	refused(t, "func f() int { return y; }", 0, api.ErrKnown)
	refused(t, "func f(a int) int { return a; } func g() int { return a; }", 1, api.ErrKnown)
	refused(t, "func f(a int) int { return a; } test t { assert a == 1; }", 1, api.ErrKnown)
	refused(t, "func f() int { y := 1; return y; } func g() int { return y; }", 1, api.ErrKnown)
	refused(t, "test t { y := 1; } test s { y = 1; }", 1, api.ErrKnown)
}

// Promise 12.1: a function must be there, wherever it is called; globals, variables and tests are none.
func TestUnknownFunctions(t *testing.T) {
	for _, s := range []string{"h();", "h(1);", "x := h();", "x := 1 + h();", "assert h();", "if h() { }", "for h() { }", "x := f(h());", "x := int(h());", "x := -h();", "g();", "t();", "x := 1; x();", "F(1);", "assert g() == 1;", "s();"} {
		refused(t, "test t { "+s+" } func f(a int) int { return a; } var g int = 1; test s { }", 0, api.ErrKnown)
	}
	refused(t, "func f() int { return h(); }", 0, api.ErrKnown)
	refused(t, "func f(a int) int { return a(); }", 0, api.ErrKnown)
}

// Promise 12.1: what is known: globals and functions from everywhere, themselves too; parameters; names to the end of their blocks, in all blocks within.
func TestKnown(t *testing.T) {
	for _, s := range []string{
		"test t { g = g + 1; } var g int = 1;",
		"var g int = 1; test t { g = g + 1; }",
		"func f() int { return g; } var g int = 1;",
		"test t { assert f(1) == 1; } func f(a int) int { return a; }",
		"func f(a int) int { return a; } test t { assert f(1) == 1; }",
		"func f(a int) int { return f(a - 1); }",
		"func f(a int) int { return g(a); } func g(a int) int { return f(a); }",
		"func f(a int, b float, c bool) int { a = 2; b = 2.5; c = true; return a; }",
		"test t { x := 1; y := x; x = y; if x == y { x = y; z := x; z = y; } for x < y { x = y; z := y; z = x; } }",
		"test t { x := 1; if true { if true { for true { x = 2; } } else { x = 3; } } x = 4; }",
		"test t { if true { x := 1; } else { x := 1.5; } x := true; assert x; }",
		"test t { if true { x := 1; x = 2; } if true { x := 1.5; x = 2.5; } for true { x := true; x = false; } }",
		"test t { if true { x := 1; } else if true { x := 2; } else { x := 3; } }",
		"test t { for true { for true { x := 1; } x := 2.5; } x := false; }",
		"test t { x := 1; } test s { x := 1.5; } func f(x bool) bool { return x; } func g(x int) int { return x; }",
		"test t { skip; }", "test t { }", "test t { assert true; f(); } func f() int { assert true; f(); return 1; }",
	} {
		taken(t, s)
	}
}

// Promise 12.1: names of functions and tests are those of variables, too: they are no globals', and no variables are known by them.
func TestVariablesNamedAsFunctions(t *testing.T) {
	taken(t, "func f(f int) int { f = f + 1; return f; } test t { t := f(1); f := t; f = f(f); }")
	taken(t, "func f(g float) float { t := g; return t; } func g() int { return 1; } test t { g := g(); }")
}

// Promise 12.1: a name that is known already, or is a global's, is not made known again.
func TestKnownTwice(t *testing.T) {
	for _, s := range []string{
		"x := 1; x := 1;", "x := 1; x := 1.5;", "x := 1; y := 2; x := 3;", "x := 1; x := x;", "x := 1; if true { x := 2; }", "x := 1; if true { } else { x := 2; }", "x := 1; if true { } else if true { x := 1; }", "x := 1; for true { x := 2; }", "x := 1; if true { for true { if false { x := 2; } } }",
		"if true { x := 1; x := 1; }", "for true { x := 1; if true { x := 1; } }", "if true { x := 1; } x := 2; if true { x := 3; }", "g := 1;", "g := g;", "if true { g := 1; }", "for true { g := 1; }", "later := 1;", "if true { } else { later := 1; }",
	} {
		refused(t, "var g int = 1; test t { "+s+" } var later int = 1;", 1, api.ErrTwice)
		refused(t, "var g int = 1; func f() int { "+s+" return 1; } var later int = 1;", 1, api.ErrTwice)
		refused(t, "var g int = 1; func f(a int, b int) int { "+s+" return 1; } var later int = 1;", 1, api.ErrTwice)
	}
	for _, s := range []string{"a := 1;", "b := 1;", "a := a;", "if true { a := 1; }", "for true { if true { } else { b := 1; } }"} {
		refused(t, "func f(a int, b int) int { "+s+" return 1; }", 0, api.ErrTwice)
	}
	refused(t, "func f(a int, a int) int { return 1; }", 0, api.ErrTwice)
	refused(t, "func f(a int, b int, a float) int { return 1; }", 0, api.ErrTwice)
	refused(t, "var g int = 1; func f(g int) int { return 1; }", 1, api.ErrTwice)
	refused(t, "func f(a int, g int) int { return 1; } var g float = 1.5;", 0, api.ErrTwice)
}

// Promise 12.1: calls have as many arguments as the function has parameters.
func TestCounts(t *testing.T) {
	const all = " func f0() int { return 1; } func f1(a int) int { return a; } func f2(a int, b int) int { return a; } func f6(a int, b int, c int, d int, e int, f int) int { return f; }"
	names := map[string]int{"f0": 0, "f1": 1, "f2": 2, "f6": 6}
	for f, want := range names {
		for have := range 7 {
			args := ""
			for i := range have {
				if i > 0 {
					args += ", "
				}
				args += "1"
			}
			s := f + "(" + args + ")"
			for _, line := range []string{s + ";", "x := " + s + ";", "assert 1 == " + s + ";", "f1(" + s + ");"} {
				if have == want {
					taken(t, "test t { "+line+" }"+all)
				} else {
					refused(t, "test t { "+line+" }"+all, 0, api.ErrCount)
				}
			}
		}
	}
	refused(t, "func f(a int) int { return f(); }", 0, api.ErrCount)
	refused(t, "func f(a int) int { return f(a, a); }", 0, api.ErrCount)
	refused(t, all+" test t { f0(f1(f2(1, 2)), 1); }", 4, api.ErrCount)
}
