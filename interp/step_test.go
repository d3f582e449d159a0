package interp

import (
	"testing"

	"cupel/api"
)

// all is a program with all kinds of nodes and signs, that passes.
const all = `var g int = -3; var h float = -0.5; var q bool = true;
func f(a int, b float, c bool) int { x := a + 1 - 2 * 3 / 4 % 5; x = x; if c && q || !c { return x; } else if b < 1.5 { return 2; } else { g = -a; return int(b); } }
func k() bool { for g <= 3 { g = g + 1; f(g, float(g), g > 1); skip; } return h >= 0.5 == (h != 2.0); }
test t { assert f(1, 2.5, true) == 1; assert !k(); assert g == 4; }`

// The chapter's example, and that of the stage.
func TestExamples(t *testing.T) {
	covers(t, "test t { assert 1 == 1; }", 1, 5, "t1 t2 t3 t4 t5")
	covers(t, "func f(a int) int { return a + 1; } test t { assert f(1) == 2; }", 1, 11, "f2 f3 f4 f5 f6 t1 t2 t3 t4 t5 t6")
}

// Promise 14.1, a step: each kind of statement, in a test.
func TestStepsOfStatements(t *testing.T) {
	covers(t, "test t { }", 1, 1, "t1")
	covers(t, "test t { skip; }", 1, 2, "t1 t2")
	covers(t, "test t { skip; skip; skip; }", 1, 4, "t1 t2 t3 t4")
	covers(t, "test t { x := 1; }", 1, 3, "t1 t2 t3")
	covers(t, "test t { x := 1; x = 2; }", 1, 5, "t1 t2 t3 t4 t5")
	covers(t, "var g int = 1; test t { g = 2; }", 1, 3, "t1 t2 t3")
	covers(t, "test t { assert true; }", 1, 3, "t1 t2 t3")
	covers(t, "test t { if true { } }", 1, 4, "t1 t2 t3 t4")
	covers(t, "test t { if false { } }", 1, 3, "t1 t2 t3")
	covers(t, "test t { if true { } else { } }", 1, 4, "t1 t2 t3 t4")
	covers(t, "test t { if false { } else { } }", 1, 4, "t1 t2 t3 t5")
	covers(t, "test t { if false { skip; } else { skip; skip; } }", 1, 6, "t1 t2 t3 t6 t7 t8")
	covers(t, "test t { if true { skip; } else { skip; skip; } skip; }", 1, 6, "t1 t2 t3 t4 t5 t9")
	covers(t, "test t { if false { } else if true { skip; } }", 1, 8, "t1 t2 t3 t5 t6 t7 t8 t9") // the second if stands in a block of its own
	covers(t, "test t { for false { skip; } skip; }", 1, 4, "t1 t2 t3 t6")
	covers(t, "func f() int { return 1; } test t { f(); }", 1, 6, "f1 f2 f3 t1 t2 t3")
	covers(t, "func f(a int, b bool) int { return 1; } test t { f(1, true); }", 1, 8, "f3 f4 f5 t1 t2 t3 t4 t5")
}

// Promise 14.1, a step: each kind of expression, behind assert.
func TestStepsOfExpressions(t *testing.T) {
	for s, steps := range map[string]int{
		"true":                      1,
		"!false":                    2,
		"!!true":                    3,
		"q":                         1,
		"1 == 1":                    3,
		"g == 7":                    3,
		"1.5 == 1.50":               3,
		"-1 == -1":                  5,
		"- -1 == 1":                 5,
		"-1.5 < 0.0":                4,
		"int(2.5) == 2":             4,
		"float(2) == 2.0":           4,
		"int(7) == 7":               4,
		"float(1.5) == float(1.5)":  5,
		"int(float(int(2.9))) == 2": 6,
		"1 + 2 * 3 == 7":            7,
		"(1 + 2) * 3 == 9":          7,
		"(((1))) == 1":              3, // brackets are no nodes
		"1 + 2 - 3 + 4 - 5 == -1":   12,
		"true && true":              3,
		"false || true":             3,
		"true || false":             2,
		"true == true":              3,
		"false != true":             3,
		"one() == 1":                6,
		"one() + one() == 2":        11,
		"twice(3) == 6":             9,
		"twice(twice(3)) == 12":     15,
		"twice(one()) == 2":         12,
	} {
		text := "var g int = 7; var q bool = true; func one() int { return 1; } func twice(a int) int { return a * 2; } test t { assert " + s + "; }"
		ends(t, text, api.Pass, steps+2)
	}
}

// Promise 14.1, a step: a declaration is none, nor is what a global begins with, nor a parameter.
func TestDeclarationsAreNoSteps(t *testing.T) {
	covers(t, "var a int = 1; var b float = 2.5; var c bool = true; func f(x int, y float) int { return 1; } test t { } test u { skip; }", 1, 1, "t1")
	covers(t, "var a int = -1; test t { assert a < 0; }", 1, 5, "t1 t2 t3 t4 t5")
}

// Promise 14.1: what is run when: kids from the left, each with all of its own, arguments ahead of the function's block, the second one behind the first.
func TestOrderOfSteps(t *testing.T) {
	same(t, "arguments", order(t, "func f(a int, b int) int { return a; } test t { f(1 + 2, 3); skip; }"), "t1 t2 t3 t4 t5 t6 t7 f3 f4 f5 t8")
	same(t, "arguments that are calls", order(t, "func f(a int, b int) int { return a; } func g() int { return 1; } func h() int { return 2; } test t { f(g(), h()); }"), "t1 t2 t3 t4 g1 g2 g3 t5 h1 h2 h3 f3 f4 f5")
	same(t, "two of a sign", order(t, "func g() int { return 1; } func h() int { return 2; } test t { assert h() - g() == 1; }"), "t1 t2 t3 t4 t5 h1 h2 h3 t6 g1 g2 g3 t7")
	same(t, "a condition and its block", order(t, "test t { if 1 < 2 { skip; } skip; }"), "t1 t2 t3 t4 t5 t6 t7 t8")
	same(t, "a loop", order(t, "test t { i := 0; for i < 1 { i = i + 1; } skip; }"), "t1 t2 t3 t4 t5 t6 t7 t8 t9 t10 t11 t12 t13")
	same(t, "a condition's second one, later", order(t, "var n int = 0; test t { for n < 1 || n < 2 { n = n + 1; } }"), "t1 t2 t3 t4 t5 t6 t10 t11 t12 t13 t14 t7 t8 t9")
}

// Promise 14.1: fuel of 0, of just the steps, of one less, of MaxFuel.
func TestFuel(t *testing.T) {
	p := treeOf(t, "test t { assert 1 == 1; }")
	for fuel, want := range []string{"", "t1", "t1 t2", "t1 t2 t3", "t1 t2 t3 t4"} {
		got := run(t, p, "t", fuel)
		same(t, "the outcome", got.Outcome, 6)
		same(t, "the steps", got.Steps, fuel)
		same(t, "the cover", told(got.Cover), want)
	}
	for _, fuel := range []int{5, 6, 7, 1000, 20000} {
		got := run(t, p, "t", fuel)
		same(t, "the outcome", got.Outcome, 1)
		same(t, "the steps", got.Steps, 5)
		same(t, "the cover", told(got.Cover), "t1 t2 t3 t4 t5")
	}
}

// Promise 14.1: a test that takes just MaxFuel steps passes; one step more is too many.
func TestTestsAsLongAsMayBe(t *testing.T) {
	p := treeOf(t, "test t { i := 0; for i < 2499 { i = i + 1; } skip; }") // 7 steps, 8 more each time, and 1
	got := run(t, p, "t", 20000)
	same(t, "the outcome", got.Outcome, 1)
	same(t, "the steps", got.Steps, 20000)
	p = treeOf(t, "test t { i := 0; for i < 2499 { i = i + 1; } skip; skip; }")
	got = run(t, p, "t", 20000)
	same(t, "the outcome", got.Outcome, 6)
	same(t, "the steps", got.Steps, 20000)
	same(t, "whether it came to the last statement", Covers(got, api.Site{Name: "t", Node: 14}), false)
	same(t, "whether it came to the one ahead of it", Covers(got, api.Site{Name: "t", Node: 13}), true)
}

// Promise 14.1: all kinds of nodes in one program.
func TestAllKinds(t *testing.T) {
	passes(t, all)
}
