package interp

import (
	"strconv"
	"strings"
	"testing"

	"cupel/api"
)

// down is a function that calls itself till n calls are under way; of f(n), n above 1, each call but the last takes 11 steps, the last one 7.
const down = "func f(n int) int { if n > 1 { return f(n - 1); } return 1; } "

// Promise 14.1, a call: MaxCalls calls may be under way, and not one more.
func TestDeepCalls(t *testing.T) {
	ends(t, down+"test t { f(1); }", api.Pass, 4+7)
	ends(t, down+"test t { f(63); }", api.Pass, 4+62*11+7)
	ends(t, down+"test t { f(64); }", api.Pass, 4+63*11+7)
	ends(t, down+"test t { f(65); }", api.TrapDeep, 4+64*11)
	ends(t, down+"test t { f(66); }", api.TrapDeep, 4+64*11)
	ends(t, down+"test t { f(1000000); }", api.TrapDeep, 4+64*11)
	const other = "func even(n int) bool { if n == 0 { return true; } return odd(n - 1); } func odd(n int) bool { if n == 0 { return false; } return even(n - 1); } "
	ends(t, other+"test t { assert odd(63); }", api.Pass, 4+63*10+8)
	ends(t, other+"test t { assert even(64); }", api.TrapDeep, 4+64*10)
}

// Promise 14.1, a call: one that is over does not count any more.
func TestCallsThatAreOver(t *testing.T) {
	passes(t, down+"test t { f(64); f(64); assert f(64) + f(64) == 2; }")
	passes(t, down+"test t { i := 0; for i < 200 { assert f(i % 3) == 1; i = i + 1; } }")
	passes(t, "func one() int { return 1; } func f(n int) int { one(); if n > 1 { one(); return f(n - 1) + one(); } return 0; } test t { assert f(63) == 62; }")
	if got := run(t, treeOf(t, down+"test t { f(64); f(65); }"), "t", api.MaxFuel); got.Outcome != api.TrapDeep || got.Steps != 4+63*11+7+3+64*11 {
		t.Error(got)
	}
}

// Promise 14.1, a call: its arguments are run ahead of the look at how many are under way, and ahead of its block.
func TestArgumentsAheadOfDepth(t *testing.T) {
	const f = "func f(n int) int { if n == 64 { return f(1 / 0); } return f(n + 1); } test t { f(1); }"
	ends(t, f, api.TrapZero, 4+63*10+11)
	const g = "var n int = 0; func id(a int) int { return a; } func f(a int) int { n = n + 1; if n == 63 { return id(id(a)); } if n == 64 { return 0; } return f(id(a)); } test t { f(7); assert n == 63; }"
	passes(t, g) // those within arguments are over, when the call is looked at
	const h = "var n int = 0; func id(a int) int { return a; } func f(a int) int { n = n + 1; if n == 64 { return f(id(a)); } return f(a); } test t { f(7); }"
	got := run(t, treeOf(t, h), "t", api.MaxFuel)
	same(t, "the outcome", got.Outcome, api.TrapDeep)
	same(t, "whether it came to the argument", Covers(got, api.Site{Name: "f", Node: 14}), true)
	same(t, "whether it came into the call there", Covers(got, api.Site{Name: "id", Node: 2}), false)
}

// Promise 14.1, a call: calls that are arguments of one another, more than MaxCalls of them, are not under way at once.
func TestCallsInArguments(t *testing.T) {
	n := whole(5)
	for range 300 {
		n = named(api.NodeCall, "id", n)
	}
	p := treeOf(t, "func id(a int) int { return a; } test t { }")
	p.Kids[1].Kids[0] = block(tree(api.NodeAssert, bin(n, "==", whole(5))))
	got := run(t, p, "t", api.MaxFuel)
	same(t, "the outcome", got.Outcome, api.Pass)
	same(t, "the steps", got.Steps, 5+300*4)
}

// Promise 14.1: calls of calls.
func TestCallsOfCalls(t *testing.T) {
	passes(t, "func a() int { return b() + b(); } func b() int { return c() * 3; } func c() int { return 2; } test t { assert a() == 12; }")
	passes(t, "func fib(n int) int { if n < 2 { return n; } a := fib(n - 1); b := fib(n - 2); return a + b; } test t { assert fib(12) == 144; }")
	passes(t, "func fact(n int) int { if n == 0 { return 1; } return n * fact(n - 1); } test t { assert fact(20) == 2432902008176640000; assert fact(21) == -4249290049419214848; }")
	passes(t, "func gcd(a int, b int) int { if b == 0 { return a; } return gcd(b, a % b); } test t { assert gcd(1071, 462) == 21; assert gcd(gcd(100, 75), gcd(35, 50)) == 5; }")
	passes(t, "func f(a int) int { return a + 1; } test t { assert f(f(f(f(0)))) == 4; }")
}

// Promise 14.1: arguments go to parameters by their places, of all types.
func TestArguments(t *testing.T) {
	passes(t, "func f(a int, b float, c bool, d int, e float, g bool) int { assert a == 1; assert b == 2.5; assert c; assert d == 4; assert e == 5.5; assert !g; return 6; } test t { assert f(1, 2.5, true, 4, 5.5, false) == 6; }")
	passes(t, "func sub(a int, b int) int { return a - b; } test t { assert sub(5, 3) == 2; assert sub(3, 5) == -2; }")
	passes(t, "func sub(a int, b int) int { return a - b; } func turned(a int, b int) int { return sub(b, a); } test t { assert turned(5, 3) == -2; }") // names of parameters of both are the same
	passes(t, "var n int = 0; func next() int { n = n + 1; return n; } func f(a int, b int, c int) int { return a * 100 + b * 10 + c; } test t { assert f(next(), next(), next()) == 123; }")
}

// Promise 14.1, values: each call has its own parameters and names.
func TestEachCallHasItsOwn(t *testing.T) {
	passes(t, "func f(a int) int { a = a + 1; x := a; if a < 5 { f(a); } assert x == a; return a; } test t { assert f(0) == 1; x := 9; a := 8; f(3); assert x == 9; assert a == 8; }")
	passes(t, "func f(a int) int { a = 100; return a; } test t { a := 1; f(a); assert a == 1; assert f(a) + a == 101; }") // a change to a parameter is not seen outside
	passes(t, "func f(n int) int { x := n; if n > 0 { y := f(n - 1); x = x + y; } return x; } test t { assert f(10) == 55; }")
	passes(t, "func f(n int) int { if n > 0 { x := n; f(n - 1); assert x == n; } return n; } func g(x bool) int { f(3); assert x; return 1; } test t { g(true); }")
	passes(t, "func f(g int) int { h := g; return h + 1; } func g(f int) int { return f; } test t { f := f(1); assert f == 2; assert g(f) == 2; }") // names may be those of functions
}

const counting = "var n int = 5; var x float = -0.5; var q bool = true; func inc() int { n = n + 1; x = x * 2.0; q = !q; return n; } "

// Promise 14.1, values: globals that a call changes stay changed within the test.
func TestGlobalsStayChanged(t *testing.T) {
	passes(t, counting+"test t { assert n == 5; assert inc() == 6; assert n == 6; assert !q; assert inc() == 7; assert x == -2.0; assert q; n = 1; assert inc() == 2; i := 0; for i < 10 { inc(); i = i + 1; } assert n == 12; }")
	passes(t, "var n int = 0; func deep(a int) int { n = n + a; if a > 0 { deep(a - 1); } return n; } test t { assert deep(10) == 55; assert n == 55; }")
	passes(t, "var n int = 0; func inc() int { n = n + 1; return n; } test t { assert n + inc() == 1; assert inc() + n == 4; }") // from the left
}

// Promise 14.1, values: each test begins with the globals' literals, whatever was run ahead of it.
func TestGlobalsBeginWithTheirLiterals(t *testing.T) {
	p := treeOf(t, counting+"test t { assert n == 5; assert x == -0.5; assert q; inc(); assert n == 6; } test u { n = 100; x = 1.5; q = false; assert inc() == 101; } test v { inc(); assert 1 / 0 == n; }")
	for range 3 {
		for _, test := range []string{"u", "t", "v", "t", "t"} {
			want := api.Pass
			if test == "v" {
				want = api.TrapZero
			}
			same(t, "the outcome of "+test, run(t, p, test, api.MaxFuel).Outcome, want)
		}
	}
}

// Promise 14.1, values: what literals of globals are.
func TestLiteralsOfGlobals(t *testing.T) {
	passes(t, "var a int = 0; var b int = -1; var c int = 9223372036854775807; var d int = -9223372036854775807; test t { assert a == 0; assert b == 0 - 1; assert c + 1 < 0; assert c + d == 0; }")
	passes(t, "var a float = 0.0; var b float = -0.0; var c float = -1.5; var d float = 007.500; test t { assert 1.0 / a > 0.0; assert 1.0 / b < 0.0; assert a == b; assert c + 1.5 == 0.0; assert d == 7.5; }")
	passes(t, "var a bool = true; var b bool = false; test t { assert a; assert !b; assert a != b; }")
}

// Promise 14.1: what signs make is what layer 13 says.
func TestValues(t *testing.T) {
	for _, s := range []string{
		"7 + 2 == 9", "7 - 2 == 5", "7 * 2 == 14", "7 / 2 == 3", "7 % 2 == 1", "-7 / 2 == -3", "-7 % 2 == -1", "7 % -2 == 1",
		"1 < 2", "!(2 < 2)", "2 <= 2", "!(3 <= 2)", "3 > 2", "!(2 > 2)", "2 >= 2", "!(1 >= 2)", "1 != 2", "!(1 == 2)",
		"0.5 + 0.25 == 0.75", "0.5 - 0.25 == 0.25", "0.5 * 0.5 == 0.25", "1.0 / 4.0 == 0.25", "0.1 + 0.2 != 0.3", "1.5 < 2.5", "1.5 <= 1.5", "2.5 > 1.5", "2.5 >= 2.5",
		"!(0.0 / 0.0 == 0.0 / 0.0)", "0.0 / 0.0 != 0.0 / 0.0", "!(0.0 / 0.0 < 1.0)", "1.0 / 0.0 > 9.0", "1.0 / -0.0 < -9.0", "0.0 == -0.0", "0.0 - 0.0 == 0.0",
		"true == true", "true != false", "!(true == false)", "!false", "-(-3) == 3", "-(1.5) == -1.5",
		"int(2.9) == 2", "int(-2.9) == -2", "float(3) == 3.0", "int(-0.5) == 0", "float(9223372036854775807) == float(9223372036854775806)", "int(5) == 5", "float(0.5) == 0.5",
		"10 - 3 - 2 == 5", "2 + 3 * 4 == 14", "100 / 10 / 5 == 2",
	} {
		passes(t, "test t { assert "+s+"; }")
		passes(t, "func f() bool { x := "+s+"; return x; } test t { assert f(); }")
		if got := run(t, treeOf(t, "test t { assert !("+s+"); }"), "t", api.MaxFuel); got.Outcome != api.TrapAssert {
			t.Errorf("not %s: outcome %d", s, got.Outcome)
		}
	}
}

// Promise 14.1: programs as great as may be run.
func TestGreatPrograms(t *testing.T) {
	var text strings.Builder
	for i := range api.MaxGlobals {
		text.WriteString("var g" + strconv.Itoa(i) + " int = " + strconv.Itoa(i) + ";\n")
	}
	for i := range api.MaxFuncs - 1 {
		text.WriteString("func f" + strconv.Itoa(i) + "(a int) int { g" + strconv.Itoa(i%api.MaxGlobals) + " = a; return f" + strconv.Itoa(i+1) + "(a + 1); }\n")
	}
	s := strings.Replace(text.String(), "return f31(a + 1)", "return a", 1)
	got := run(t, treeOf(t, s+"test t { assert f0(0) == 30; assert g0 == 16; assert g14 == 30; assert g15 == 15; }"), "t", api.MaxFuel)
	same(t, "the outcome", got.Outcome, api.Pass)
	same(t, "the steps", got.Steps, 1+5+12+30*8+5)
	n := truth(1) // a tree as deep as may be
	for range api.MaxNodes - 5 {
		n = named(api.NodeUnary, "!", n)
	}
	deep := program(named(api.NodeTest, "t", block(tree(api.NodeAssert, n))))
	got = run(t, deep, "t", api.MaxFuel)
	same(t, "the outcome", got.Outcome, api.TrapAssert)
	same(t, "the steps", got.Steps, api.MaxNodes-2)
	same(t, "the cover", len(got.Cover), api.MaxNodes-2)
}
