package interp

import (
	"math"
	"reflect"
	"strings"
	"testing"

	"cupel/api"
	"cupel/ast"
	"cupel/check"
)

// refuses tells that a run is refused, with nothing beside the error.
func refuses(t *testing.T, what string, p api.Node, test string, fuel int, want api.Errno) {
	t.Helper()
	before := ast.Clone(p)
	got, e := Run(p, test, fuel)
	same(t, what+": the error", e, want)
	if !sameResult(got, api.Result{}) {
		t.Errorf("%s: %v beside an error", what, got)
	}
	if !reflect.DeepEqual(ast.Clone(p), before) {
		t.Errorf("%s: what was handed in does not stay", what)
	}
}

// Programs that are rejected, and why.
var rejected = []struct {
	text string
	why  api.Errno
}{
	{"test t { } test t { }", api.ErrTwice},
	{"var t int = 1; test t { }", api.ErrTwice},
	{"test t { x := 1; x := 2; }", api.ErrTwice},
	{"test t { assert x; }", api.ErrKnown},
	{"test t { f(); }", api.ErrKnown},
	{"test t { t(); }", api.ErrKnown},
	{"test t { if true { x := 1; } x = 2; }", api.ErrKnown},
	{"test t { assert 1; }", api.ErrType},
	{"test t { if 1 { } }", api.ErrType},
	{"test t { assert 1 == 1.0; }", api.ErrType},
	{"func f() int { return 1.0; } test t { }", api.ErrType},
	{"func f(a int) int { return a; } test t { f(); }", api.ErrCount},
	{"func f() int { return 1; } test t { f(2); }", api.ErrCount},
	{"test t { return 1; }", api.ErrReturn},
	{"func f() int { } test t { f(); }", api.ErrReturn},
	{"test t { } func f() int { return 1.0; }", api.ErrType},
	{"test t { } test u { return 1; }", api.ErrReturn},
}

// Promise 14.1: check's error goes ahead of all others.
func TestErrorsOfCheck(t *testing.T) {
	for _, r := range rejected {
		p := treeOf(t, r.text)
		for _, test := range []string{"t", "", "none", "f"} {
			for _, fuel := range []int{100, 0, -1, api.MaxFuel, api.MaxFuel + 1} {
				refuses(t, r.text, p, test, fuel, r.why)
			}
		}
	}
	for _, p := range []api.Node{{}, block(), named(api.NodeTest, "t", block()), program(named(api.NodeTest, "t")), program(api.Node{}), program(named(api.NodeTest, "t", block(block()))), {Kind: api.NodeProgram, T: 1}} {
		refuses(t, "no program", p, "t", 100, api.ErrTree)
		refuses(t, "no program, and no such test", p, "u", 100, api.ErrTree)
		refuses(t, "no program, and too much fuel", p, "u", api.MaxFuel+1, api.ErrTree)
	}
}

// Promise 14.1: there is no such test; that goes ahead of fuel that may not be.
func TestNoSuchTest(t *testing.T) {
	p := treeOf(t, "var g int = 1; func f() int { return 1; } test t { } test u { x := 1; }")
	for _, test := range []string{"", "f", "g", "x", "T", "tt", "t ", " t", "t\x00", "int", "test", "none", strings.Repeat("t", 100000)} {
		for _, fuel := range []int{100, 0, -1, api.MaxFuel, api.MaxFuel + 1} {
			refuses(t, "the test "+short(test), p, test, fuel, api.ErrNone)
		}
	}
	refuses(t, "no tests", program(), "t", 100, api.ErrNone)
	refuses(t, "no name", program(), "", -1, api.ErrNone)
}

// Promise 14.1: fuel is 0 to MaxFuel.
func TestFuelThatMayNotBe(t *testing.T) {
	p := treeOf(t, "test t { }")
	for _, fuel := range []int{-1, -2, math.MinInt, math.MinInt32, api.MaxFuel + 1, api.MaxFuel + 2, math.MaxInt32, math.MaxInt, 1 << 32, 1<<32 + 1, -1<<32 + 1} {
		refuses(t, "fuel", p, "t", fuel, api.ErrArg)
	}
	for _, fuel := range []int{0, 1, api.MaxFuel - 1, api.MaxFuel} {
		run(t, p, "t", fuel)
	}
}

// Promise 14.1: each function has a value, and returns on each way: one that comes to its end is rejected, and not run.
func TestFunctionsThatComeToTheirEnd(t *testing.T) {
	for _, s := range []string{"{ }", "{ skip; }", "{ for true { return 1; } }", "{ if true { return 1; } }", "{ if true { return 1; } else { } }", "{ return 1; skip; }"} {
		refuses(t, s, treeOf(t, "func f() int "+s+" test t { f(); }"), "t", 100, api.ErrReturn)
	}
	p := treeOf(t, "func f() int { return 1; } test t { f(); }")
	p.Kids[0].T = 0
	refuses(t, "a function without a value that returns one", p, "t", 100, api.ErrType)
	p.Kids[0].Kids[0].Kids = nil
	refuses(t, "a function without a value that comes to its end", p, "t", 100, api.ErrTree)
}

// Promise 14.1: a program whose expressions have types already, or other ones, runs as it does without them.
func TestTypesThatATreeBringsAlong(t *testing.T) {
	p := treeOf(t, all)
	want := run(t, p, "t", api.MaxFuel)
	checked, _, e := check.Program(p)
	same(t, "check's error", e, api.OK)
	if got := run(t, checked, "t", api.MaxFuel); !sameResult(got, want) {
		t.Errorf("a checked one: %v, not %v", got, want)
	}
	for place, n := range ast.All(p) {
		if n.Kind < api.NodeInt || n.Kind == api.NodeConv {
			continue
		}
		for _, kind := range []int{-1, 1, 2, 3, 4} {
			n.T = kind
			if got, e := Run(ast.Replace(p, place, n), "t", api.MaxFuel); e != api.OK || !sameResult(got, want) {
				t.Errorf("type %d at %d: %v, error %d, not %v", kind, place, got, e, want)
			}
		}
	}
}
