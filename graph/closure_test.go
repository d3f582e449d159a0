package graph

import (
	"strconv"
	"strings"
	"testing"
)

// Promise 16.1: the example: a test that calls f, and f calls g: its closure is f, g and it.
func TestClosureOfTheExample(t *testing.T) {
	p := treeOf(t, "func g() int { return 1; } func f() int { return g(); } func h() int { return 1; } test t { assert f() == 1; }")
	closureOf(t, p, "t", "f g t")
	closureOf(t, p, "f", "f g")
	closureOf(t, p, "g", "g")
	closureOf(t, p, "h", "h")
	closureOf(t, typesOf(t, p), "t", "f g t")
}

// Promise 16.1: one that uses nothing, one that uses itself, two that use each other, three that do in a ring.
func TestClosureOfRings(t *testing.T) {
	p := treeOf(t, "var v int = 1; func one() int { return 1; } func self(x int) int { return self(x); } func a() int { return b(); } func b() int { return a(); } "+
		"func x() int { return y(); } func y() int { return z(); } func z() int { return x() + one(); } test t { x(); } test u { }")
	for name, want := range map[string]string{
		"v": "v", "one": "one", "self": "self", "a": "a b", "b": "a b", "x": "one x y z", "y": "one x y z", "z": "one x y z", "t": "one t x y z", "u": "u",
	} {
		closureOf(t, p, name, want)
	}
}

// Promise 16.1: what is used by two ways is told once; what is used from afar is told.
func TestClosureByTwoWays(t *testing.T) {
	p := treeOf(t, "test t { a(); b(); a(); } func a() int { return c(); } func b() int { return c() + a(); } func c() int { w = v; return v; } var v int = 1; var w int = 2; var x int = 3; func d() int { return a() + x; }")
	closureOf(t, p, "t", "a b c t v w")
	closureOf(t, p, "b", "a b c v w")
	closureOf(t, p, "c", "c v w")
	closureOf(t, p, "d", "a c d v w x")
	closureOf(t, p, "w", "w")
}

// Promise 16.1: parameters and variables that have the names of others bring nothing.
func TestClosureWithNamesOfOthers(t *testing.T) {
	p := treeOf(t, "var v int = 1; func g() int { return v; } func h(g int) int { return g; } test t { g := h(1); assert g == 1; } test u { h := g(); assert h == 1; }")
	closureOf(t, p, "h", "h")
	closureOf(t, p, "t", "h t")
	closureOf(t, p, "u", "g u v")
}

// Promise 16.1: a long row of functions, in any order of the program; the names are sorted by their bytes.
func TestClosureOfARow(t *testing.T) {
	const many = 30
	rows := make([]string, many)
	for i := range many {
		next := (i + 1) % many
		rows[i*7%many] = "func f" + strconv.Itoa(i) + "() int { return f" + strconv.Itoa(next) + "(); }"
	}
	p := treeOf(t, strings.Join(rows, "\n"))
	want := "f0 f1 f10 f11 f12 f13 f14 f15 f16 f17 f18 f19 f2 f20 f21 f22 f23 f24 f25 f26 f27 f28 f29 f3 f4 f5 f6 f7 f8 f9"
	for i := range many {
		closureOf(t, p, "f"+strconv.Itoa(i), want)
	}
}
