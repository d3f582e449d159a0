package interp

import (
	"testing"

	"cupel/api"
)

// Promise 14.1, traps: each one ends the test at once, with the steps and the cover that it came to.
func TestTraps(t *testing.T) {
	covers(t, "test t { assert false; skip; }", 2, 3, "t1 t2 t3")
	covers(t, "test t { assert 1 == 2; assert true; }", 2, 5, "t1 t2 t3 t4 t5")
	covers(t, "test t { x := 1 / 0; skip; }", 3, 5, "t1 t2 t3 t4 t5")
	covers(t, "test t { x := 1 % 0; skip; }", 3, 5, "t1 t2 t3 t4 t5")
	covers(t, "test t { x := int(0.0 / 0.0); skip; }", 4, 6, "t1 t2 t3 t4 t5 t6")
	covers(t, "test t { for true { skip; } skip; }", 6, 20000, "t1 t2 t3 t4 t5")
	covers(t, "func f() int { return f(); } test t { f(); skip; }", 5, 195, "f1 f2 f3 t1 t2 t3") // 3 steps in the test, 3 in each of 64 calls
}

// Promise 14.1, traps: which trap it is that ends a test.
func TestWhichTrap(t *testing.T) {
	for s, outcome := range map[string]int{
		"assert false && 1 / 0 == 0;":                   2,
		"assert true && 1 / 0 == 0;":                    3,
		"assert !(1.0 / 0.0 > 0.0);":                    2,
		"assert 0 / 1 == 1 % 0;":                        3,
		"assert 1 / 0 == int(0.0 / 0.0);":               3, // the first one
		"assert int(0.0 / 0.0) == 1 / 0;":               4,
		"assert -1 % 0 == 0;":                           3,
		"x := 1.0 / 0.0; y := 1.0 / -0.0;":              1, // of numbers with a point nothing is wrong
		"assert 0.0 / 0.0 == 0.0 / 0.0;":                2,
		"assert int(1.0 / 0.0) == 0;":                   4,
		"assert int(-1.0 / 0.0) == 0;":                  4,
		"x := int(10000000.0 * 1000000000000.0);":       4, // 10^19
		"x := int(-10000000.0 * 1000000000000.0);":      4,
		"x := int(1000000.0 * 1000000000000.0);":        1, // 10^18
		"x := 9223372036854775807; x = x + 1;":          1, // whole numbers wrap around
		"x := -9223372036854775807 - 1; x = x / -1;":    1,
		"x := -9223372036854775807 - 1; x = x % -1;":    1,
		"for 1 / 0 == 0 { }":                            3,
		"if int(0.0 / 0.0) == 0 { assert false; }":      4,
		"x := one(1 / 0);":                              3,
		"one(int(0.0 / 0.0));":                          4,
		"two(1 / 0, int(0.0 / 0.0));":                   3, // from the left
		"two(int(0.0 / 0.0), 1 / 0);":                   4,
		"two(one(0), quotient(0)); ":                    3,
		"quotient(0); assert false;":                    3,
		"assert quotient(5) == 1;":                      2,
		"holds(false); x := 1 / 0;":                     2, // an assertion in a function
		"holds(true); x := 1 / 0;":                      3,
		"x := - quotient(0);":                           3,
		"g = 1 / 0;":                                    3,
		"forever(); assert false;":                      6,
		"assert forever() == 1 / 0;":                    6,
		"deep(0); assert false;":                        5,
		"assert deep(1 / 0) == 0;":                      3,
		"assert false || deep(0) == 0;":                 5,
		"assert true || deep(0) == 0;":                  1,
		"assert holds(true) && holds(false);":           2,
		"assert !(false && forever() == 0);":            1,
		"if true { x := 0; x = x / x; } assert false; ": 3,
	} {
		text := `var g int = 0;
func one(a int) int { return a; }
func two(a int, b int) int { return a; }
func quotient(a int) int { return 10 / a; }
func holds(a bool) bool { assert a; return a; }
func forever() int { for true { } return 0; }
func deep(a int) int { return deep(a + 1); }
test t { ` + s + " }"
		if got := run(t, treeOf(t, text), "t", api.MaxFuel); got.Outcome != outcome {
			t.Errorf("%s: outcome %d, not %d", s, got.Outcome, outcome)
		}
	}
}

// Promise 14.1: a trap in a call, in calls of calls and in loops ends all of these.
func TestTrapsWithinCalls(t *testing.T) {
	s := `func a(n int) int { for true { if n == 0 { return 1 / n; } skip; return b(n - 1); } return 0; }
func b(n int) int { x := a(n); skip; return x; }
test t { x := a(2); skip; }`
	got := ends(t, s, api.TrapZero, 53)
	for _, site := range []api.Site{{Name: "a", Node: 21}, {Name: "b", Node: 6}, {Name: "b", Node: 7}, {Name: "t", Node: 5}} {
		same(t, "whether it came behind the trap, to "+told([]api.Site{site}), Covers(got, site), false)
	}
}

// Promise 14.1, && and ||: the second one is run only where it counts.
func TestSecondOne(t *testing.T) {
	covers(t, "test t { x := false && true; }", 1, 4, "t1 t2 t3 t4")
	covers(t, "test t { x := true && true; }", 1, 5, "t1 t2 t3 t4 t5")
	covers(t, "test t { x := true || true; }", 1, 4, "t1 t2 t3 t4")
	covers(t, "test t { x := false || true; }", 1, 5, "t1 t2 t3 t4 t5")
	covers(t, "test t { x := false && true || true; }", 1, 6, "t1 t2 t3 t4 t5 t7")
	covers(t, "test t { x := true || true && true; }", 1, 4, "t1 t2 t3 t4")
	covers(t, "test t { x := (true || true) && false; }", 1, 6, "t1 t2 t3 t4 t5 t7")
	covers(t, "test t { x := !(false && true) || false; }", 1, 6, "t1 t2 t3 t4 t5 t6")
	covers(t, "test t { x := true == false; }", 1, 5, "t1 t2 t3 t4 t5") // other signs run both
	covers(t, "test t { x := false != true; }", 1, 5, "t1 t2 t3 t4 t5")
	covers(t, "test t { x := 0 * 1 / 1; }", 1, 7, "t1 t2 t3 t4 t5 t6 t7")
}

// Promise 14.1, && and ||: all values of both, and what a second one does that is run, or is not.
func TestValuesOfAndAndOr(t *testing.T) {
	const head = "var n int = 0; func yes() bool { n = n + 1; return true; } func no() bool { n = n + 10; return false; } test t { assert "
	for s, want := range map[string]string{
		"yes() && yes()":           "true 2",
		"yes() && no()":            "false 11",
		"no() && yes()":            "false 10",
		"no() && no()":             "false 10",
		"yes() || yes()":           "true 1",
		"yes() || no()":            "true 1",
		"no() || yes()":            "true 11",
		"no() || no()":             "false 20",
		"yes() && yes() && no()":   "false 12",
		"no() && yes() || yes()":   "true 11",
		"yes() || no() && no()":    "true 1",
		"no() || no() || yes()":    "true 21",
		"!no() && !no()":           "true 20",
		"(no() || yes()) && yes()": "true 12",
		"yes() == no()":            "false 11",
		"no() != no()":             "false 20",
	} {
		var value, count string
		for i, b := range []byte(want) {
			if b == ' ' {
				value, count = want[:i], want[i+1:]
			}
		}
		passes(t, head+"("+s+") == "+value+"; assert n == "+count+"; }")
	}
}
