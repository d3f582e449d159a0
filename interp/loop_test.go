package interp

import (
	"testing"

	"cupel/api"
)

// Promise 14.1, a loop: one that does not begin, that begins once, that counts to a number; its condition is one more time run than its block.
func TestLoops(t *testing.T) {
	for n, steps := range map[string]int{"0": 7, "1": 15, "2": 23, "3": 31, "100": 807, "-5": 8} { // -5 has a sign, which is a node
		ends(t, "test t { i := 0; for i < "+n+" { i = i + 1; } }", api.Pass, steps)
	}
	covers(t, "test t { for false { skip; } }", 1, 3, "t1 t2 t3")
	covers(t, "var q bool = true; test t { for q { q = false; } }", 1, 7, "t1 t2 t3 t4 t5 t6")
	passes(t, "test t { i := 0; s := 0; for i < 10 { i = i + 1; s = s + i; } assert i == 10; assert s == 55; }")
	passes(t, "test t { x := 1.0; n := 0; for x > 0.0 { x = x / 2.0; n = n + 1; } assert n == 1075; }")
	passes(t, "test t { x := 1; n := 0; for x != 0 { x = x * 2; n = n + 1; } assert n == 64; }")
}

// Promise 14.1, a loop: in one another, and each begins again.
func TestLoopsInLoops(t *testing.T) {
	passes(t, "test t { n := 0; i := 0; for i < 7 { j := 0; for j < i { n = n + 1; j = j + 1; } i = i + 1; } assert n == 21; assert i == 7; }")
	ends(t, "test t { i := 0; for i < 2 { for false { } i = i + 1; } }", api.Pass, 27)
}

// Promise 14.1, a loop: one that does not end takes all steps that there are.
func TestLoopsThatDoNotEnd(t *testing.T) {
	for s, cover := range map[string]string{
		"test t { for true { } assert false; }":                           "t1 t2 t3 t4",
		"var n int = 0; test t { for 0 <= n * n || true { n = n + 1; } }": "t1 t2 t3 t4 t5 t6 t7 t8 t10 t11 t12 t13 t14",
		"func f() int { for true { skip; } return 1; } test t { f(); }":   "f1 f2 f3 f4 f5 t1 t2 t3",
		"test t { for true { for true { for true { } } } }":               "t1 t2 t3 t4 t5 t6 t7 t8 t9 t10",
	} {
		p := treeOf(t, s)
		for _, fuel := range []int{0, 1, 2, 3, 50, 51, 52, 53, 54, 19999, 20000} {
			got := run(t, p, "t", fuel)
			same(t, s+": the outcome", got.Outcome, 6)
			same(t, s+": the steps", got.Steps, fuel)
		}
		same(t, s+": the cover", told(run(t, p, "t", 20000).Cover), cover)
	}
}

// Promise 14.1: a return ends the call, from within blocks and loops, and nothing behind it is run.
func TestReturns(t *testing.T) {
	covers(t, "func f() int { if true { return 1; } return 2; } test t { assert f() == 1; }", 1, 11, "f1 f2 f3 f4 f5 f6 t1 t2 t3 t4 t5")
	covers(t, "func f() int { for true { return 1; } return 2; } test t { assert f() == 1; }", 1, 11, "f1 f2 f3 f4 f5 f6 t1 t2 t3 t4 t5")
	covers(t, "func f() int { return 1; return 2; } test t { assert f() == 1; }", 1, 8, "f1 f2 f3 t1 t2 t3 t4 t5")
	covers(t, "func f() int { if true { if true { return 1; } skip; } skip; return 2; } test t { f(); }", 1, 12, "f1 f2 f3 f4 f5 f6 f7 f8 f9 t1 t2 t3")
	passes(t, "func f(n int) int { i := 0; for true { if i * i >= n { return i; } i = i + 1; } return -1; } test t { assert f(50) == 8; assert f(0) == 0; assert f(49) == 7; }")
	passes(t, "func f(n int) int { i := 0; for i < 10 { j := 0; for j < 10 { if i * 10 + j == n { return i - j; } j = j + 1; } i = i + 1; } return 99; } test t { assert f(37) == -4; assert f(73) == 4; assert f(100) == 99; assert f(0) == 0; }")
	passes(t, "func f(a bool, b bool) int { if a { if b { return 1; } else { return 2; } } else if b { return 3; } else { return 4; } } test t { assert f(true, true) == 1; assert f(true, false) == 2; assert f(false, true) == 3; assert f(false, false) == 4; }")
	passes(t, "var n int = 0; func f() int { n = 1; if n == 1 { return 5; } n = 2; return 6; } test t { assert f() == 5; assert n == 1; }") // what is behind it is not done
	passes(t, "func f() float { return -0.0; } func g() bool { return false; } test t { assert 1.0 / f() < 0.0; assert !g(); }")
}

// Promise 14.1: a return ends its own call alone.
func TestReturnsOfInnerCalls(t *testing.T) {
	passes(t, "var n int = 0; func g() int { for true { return 1; } return 2; } func f() int { i := 0; for i < 3 { g(); i = i + g(); n = n + 1; } return n; } test t { assert f() == 3; n = n + 1; assert n == 4; }")
}

// Promise 14.1: names that are made known again in another block, or in the same one again, have the value that they get there.
func TestNamesInOtherBlocks(t *testing.T) {
	passes(t, "test t { if true { x := 1; assert x == 1; } if true { x := 2.5; assert x == 2.5; } x := true; assert x; }")
	passes(t, "test t { if false { x := 1; } else { x := 2; assert x == 2; x = 3; assert x == 3; } x := 4; assert x == 4; }")
	passes(t, "test t { i := 0; for i < 3 { x := i; x = x + 1; assert x == i + 1; i = i + 1; } }")
	passes(t, "test t { i := 0; for i < 3 { if i == 1 { x := 7; assert x == 7; } else { x := 1.5; assert x == 1.5; } i = i + 1; } }")
	passes(t, "test t { x := 1; if true { x = 2; y := x; if true { y = y + x; x = y; } assert y == 4; } assert x == 4; }") // those of blocks around are changed
	passes(t, "func f(a int) int { if a > 0 { b := a; a = b + 1; } else { b := 1.0; a = int(b); } b := a; return b; } test t { assert f(5) == 6; assert f(-5) == 1; }")
}
