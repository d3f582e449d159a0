package trend

import (
	"strconv"
	"strings"
	"testing"

	"cupel/api"
	"cupel/interp"
)

// Promise 19.1 and 'Words': a row: how many mutants, how many some test kills, how many are left.
func TestRow(t *testing.T) {
	const f = "func f(a int) int { return a + 1; } "
	counts(t, increment, 2, 2, 0)
	counts(t, "", 0, 0, 0)
	counts(t, "test t { }", 0, 0, 0)
	counts(t, "test t { assert 1 + 1 == 2; }", 0, 0, 0) // tests have no mutants
	counts(t, f, 2, 0, 2)
	counts(t, f+"test t { assert true; }", 2, 0, 2)
	counts(t, f+"test t { f(1); }", 2, 0, 2)
	counts(t, f+"test t { assert f(1) > 1; }", 2, 1, 1)
	counts(t, f+"test t { assert f(1) < 3; }", 2, 1, 1)
	counts(t, f+"test t { assert f(1) < 4; }", 2, 0, 2)
	counts(t, f+"test t { assert f(1) < 3; } test u { assert f(1) == 2; }", 2, 2, 0)
	counts(t, f+"test t { assert f(1) < 4; assert f(1) > 1; } test u { assert f(1) > 0; } test v { }", 2, 1, 1)
	counts(t, f+"test t { assert f(1) > 1; } test u { assert f(0) < 2; }", 2, 2, 0)                    // each kills another one
	counts(t, f+"test t { assert f(1) == 2; } test u { assert f(2) == 3; } test v { f(1); }", 2, 2, 0) // by two tests: once
	counts(t, f+"func g(a int) int { return a * 2; } test t { assert f(1) == 2; }", 5, 2, 3)
}

// 'Words': a test that does not pass on the program kills nothing, whatever it does on mutants.
func TestRowOfTestsThatFail(t *testing.T) {
	const f = "func f(a int) int { return a + 1; } "
	counts(t, f+"test t { assert f(1) == 3; }", 2, 0, 2) // it passes on a mutant
	counts(t, f+"test t { assert f(1) == 9; }", 2, 0, 2)
	counts(t, f+"test t { assert f(1) == 9; } test u { assert f(1) > 1; }", 2, 1, 1)
	counts(t, f+"test t { assert 1 / 0 == f(1); }", 2, 0, 2)
}

// 'Words': each trap kills, each of these here alone.
func TestRowOfTraps(t *testing.T) {
	counts(t, "func f() int { return 2; } test t { assert 6 / f() < 9; }", 2, 1, 1)                                           // by nought
	counts(t, "func f() float { return 1.0; } test t { assert int(1.0 / f()) < 2; }", 1, 1, 0)                                // above all numbers
	counts(t, "func f(n int) int { if n < 1 { return 0; } return f(n - 1); } test t { f(0); f(2); }", 6, 2, 4)                // too deep: n >= 1, and n + 1
	counts(t, "func f(i int) int { return i + 1; } test t { i := 0; for i < 3 { i = f(i); } }", 2, 1, 1)                      // no fuel: i - 1
	counts(t, "func f(a int) bool { return a < 1; } test t { for f(0) { f(0); } } test u { assert f(0) && !f(2); }", 3, 1, 2) // no fuel on the program itself; a >= 1
}

// Promise 19.1: the matrix is that with api.Fuel steps: a test that takes so many passes, one that takes one more does not.
func TestRowOfFuel(t *testing.T) {
	found := map[int]int{}
	for loops := 230; loops < 260; loops++ {
		for skips := range 12 {
			source := "func f(a int) int { return a + 1; } test t { assert f(1) == 2; i := 0; for i < " + strconv.Itoa(loops) + " { i = i + 1; } " + strings.Repeat("skip; ", skips) + "}"
			r, e := interp.Run(checked(t, source), "t", api.MaxFuel)
			ok(t, "Run", e)
			if r.Steps < 1999 || r.Steps > 2001 {
				continue
			}
			found[r.Steps]++
			killed := 2
			if r.Steps > 2000 {
				killed = 0
			}
			counts(t, source, 2, killed, 2-killed)
		}
	}
	if found[1999] == 0 || found[2000] == 0 || found[2001] == 0 {
		t.Errorf("no program of a sort: %v", found)
	}
}

// Promise 19.1: the row has the commit's name, also where the same text stands behind another parent; a second time it is the same, and nothing is laid.
func TestRowAgain(t *testing.T) {
	x := fresh(t)
	ids := x.row(t, increment, "test t { }", increment)
	was := x.programs()
	for _, id := range []string{ids[0], ids[2], ids[0]} {
		row, e := Row(x.Store, id)
		ok(t, "Row", e)
		same(t, "the row", row, api.Row{ID: id, Mutants: 2, Killed: 2, Left: 0})
		same(t, "verdicts", len(x.Verdicts()), 2)
	}
	now := x.programs()
	for key, value := range now {
		same(t, "a pair that was there", was[key], value)
	}
	same(t, "pairs", len(now), len(was))
	x.untouched(t, "a row whose verdicts are kept", func() {
		_, e := Row(x.Store, ids[2])
		ok(t, "Row", e)
	})
}

// Promise 19.1: as many mutants as may be.
func TestRowOfMostMutants(t *testing.T) {
	terms := []string{}
	for range 203 {
		terms = append(terms, "1") // with its sign two mutants, the first one has no sign
	}
	source := "func f() int { return " + strings.Join(terms, "+") + "; } test t { assert f() == 203; }"
	counts(t, source, api.MaxSites, api.MaxSites, 0)
	counts(t, strings.Replace(source, "== 203", "< 205", 1), api.MaxSites, 0, api.MaxSites)
}
