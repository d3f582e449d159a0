package kill

import (
	"math"
	"reflect"
	"strings"
	"testing"

	"cupel/api"
	"cupel/ast"
	"cupel/interp"
)

// ends tells how a test of a program ends; what was handed in stays.
func ends(t *testing.T, what string, p api.Node, test string, fuel, want int) {
	t.Helper()
	was := ast.Clone(p)
	for range 2 {
		same(t, what+": how "+short(test)+" ends", Outcome(p, test, fuel), want)
	}
	if !reflect.DeepEqual(ast.Clone(p), was) {
		t.Errorf("%s: what was handed in does not stay", what)
	}
}

// Promise 17.1: each way in which a test can end.
func TestOutcomes(t *testing.T) {
	const text = `
		var v int = 0;
		func down(n int) int { if n < 1 { return 0; } return down(n - 1); }
		test passes { assert 1 < 2; }
		test empty { }
		test asserts { assert 1 > 2; }
		test noughts { v = 1 / v; }
		test converts { x := int(1.0 / float(v)); }
		test deep { down(64); }
		test nearly { down(63); }
		test loops { for true { } }`
	for name, want := range map[string]int{
		"passes": api.Pass, "empty": api.Pass, "nearly": api.Pass,
		"asserts": api.TrapAssert, "noughts": api.TrapZero, "converts": api.TrapConv, "deep": api.TrapDeep, "loops": api.TrapFuel,
	} {
		ends(t, "parsed", parsed(t, text), name, api.Fuel, want)
		ends(t, "checked", sourceOf(t, text), name, api.Fuel, want)
	}
}

// Promise 17.1: a test ends with as many steps as it has.
func TestOutcomesByFuel(t *testing.T) {
	p := parsed(t, "func f(a int) int { return a + 1; } test t { assert f(1) == 2; } test u { assert f(1) == 3; }")
	const steps = 11 // a block, assert, ==, f(1), 1, a block, return, +, a, 1, 2
	for fuel := range steps {
		ends(t, "too little fuel", p, "t", fuel, api.TrapFuel)
		ends(t, "too little fuel", p, "u", fuel, api.TrapFuel)
	}
	for _, fuel := range []int{steps, steps + 1, api.Fuel, api.MaxFuel - 1, api.MaxFuel} {
		ends(t, "enough fuel", p, "t", fuel, api.Pass)
		ends(t, "enough fuel", p, "u", fuel, api.TrapAssert)
	}
	e := sourceOf(t, "test t { }")
	ends(t, "no fuel", e, "t", 0, api.TrapFuel)
	ends(t, "a step", e, "t", 1, api.Pass)
}

// Promise 17.1: 0 where the fuel may not be.
func TestOutcomesOfOtherFuel(t *testing.T) {
	p := parsed(t, "test t { } test u { assert false; }")
	for _, fuel := range []int{-1, -2, math.MinInt, api.MaxFuel + 1, math.MaxInt32, math.MaxInt, 1 << 32, 1<<32 + 1} {
		ends(t, "fuel", p, "t", fuel, 0)
		ends(t, "fuel", p, "u", fuel, 0)
	}
}

// Promise 17.1: 0 where there is no such test.
func TestOutcomesOfOtherNames(t *testing.T) {
	p := parsed(t, "var g int = 1; func f() int { return 1; } func h(a int) int { return a; } test t { } test u { x := 1; }")
	for _, name := range []string{"", "g", "f", "h", "x", "a", "T", "tt", "t ", " t", "t\x00", "test", "none", strings.Repeat("t", 100000)} {
		for _, fuel := range []int{-1, 0, 100, api.MaxFuel, api.MaxFuel + 1} {
			ends(t, "no such test", p, name, fuel, 0)
		}
	}
	ends(t, "no tests", program(), "t", 100, 0)
	ends(t, "no name", program(), "", 100, 0)
}

// Programs that may not be, and why.
func rejectedOnes(t *testing.T) map[string]rejected {
	return map[string]rejected{
		"two of one name":        {parsed(t, "test t { } test t { }"), api.ErrTwice},
		"a name that is unknown": {parsed(t, "test t { assert x; }"), api.ErrKnown},
		"another test":           {parsed(t, "test t { } test u { f(); }"), api.ErrKnown},
		"a type":                 {parsed(t, "func f() int { return 1.0; } test t { }"), api.ErrType},
		"arguments":              {parsed(t, "func f(a int) int { return a + 1; } test t { f(); }"), api.ErrCount},
		"a return":               {parsed(t, "test t { return 1; }"), api.ErrReturn},
		"no return":              {parsed(t, "func f() int { } test t { }"), api.ErrReturn},
		"nothing":                {api.Node{}, api.ErrTree},
		"no program":             {named(api.NodeTest, "t", block()), api.ErrTree},
		"no block":               {program(named(api.NodeTest, "t")), api.ErrTree},
		"something else":         {program(named(api.NodeTest, "t", block()), block()), api.ErrTree},
	}
}

type rejected struct {
	p   api.Node
	why api.Errno
}

// Promise 17.1: 0 where the program may not be.
func TestOutcomesOfOtherPrograms(t *testing.T) {
	for what, r := range rejectedOnes(t) {
		for _, name := range []string{"t", "u", "f", ""} {
			for _, fuel := range []int{-1, 0, 100, api.MaxFuel, api.MaxFuel + 1} {
				ends(t, what, r.p, name, fuel, 0)
			}
		}
	}
}

// Promise 17.1: of each test of programs by chance it is the run's outcome; more fuel changes nothing, once there is enough.
func TestOutcomesByChance(t *testing.T) {
	rnd := chance(1)
	tally := map[int]int{}
	for range 150 {
		m := maker{rnd: rnd}
		p := m.program()
		for _, name := range ast.Names(p, api.NodeTest) {
			r, e := interp.Run(p, name, api.Fuel)
			same(t, "the run's error", e, api.OK)
			ends(t, "a chance program", p, name, api.Fuel, r.Outcome)
			tally[r.Outcome]++
			if r.Outcome != api.TrapFuel {
				ends(t, "just enough", p, name, r.Steps, r.Outcome)
				ends(t, "one less", p, name, r.Steps-1, api.TrapFuel)
				ends(t, "as much as may be", p, name, api.MaxFuel, r.Outcome)
			}
		}
	}
	for _, outcome := range []int{api.Pass, api.TrapAssert, api.TrapFuel} {
		if tally[outcome] < 10 {
			t.Errorf("too few of a sort: %v", tally)
		}
	}
}
