package check

import (
	"reflect"
	"strconv"
	"testing"

	"cupel/api"
	"cupel/ast"
	"cupel/parse"
)

func same[T comparable](t *testing.T, what string, got, want T) {
	t.Helper()
	if got != want {
		t.Errorf("%s: %v, not %v", what, got, want)
	}
}

// short is a text that may be told of a failure.
func short(s string) string {
	if len(s) > 600 {
		s = s[:200] + " .. " + s[len(s)-400:]
	}
	return strconv.Quote(s)
}

// treeOf is the tree of a text, which must have one.
func treeOf(t *testing.T, s string) api.Node {
	t.Helper()
	n, at, e := parse.Program(s)
	if e != api.OK {
		t.Fatalf("%s is no text: place %d, error %d", short(s), at, e)
	}
	return n
}

// hasText tells whether some text has a tree, types of expressions aside. (Of one that is neither too long nor too deep in its one form.)
func hasText(n api.Node) bool {
	bare := ast.Bare(n)
	got, _, e := parse.Program(ast.Print(bare))
	return e == api.OK && ast.Same(got, bare)
}

// program is a program of declarations.
func program(declarations ...api.Node) api.Node { return node(api.NodeProgram, declarations...) }

// accepts tells that a tree is accepted; it is what is answered of it: the same tree but for the types of expressions, and accepted as it is, too.
func accepts(t *testing.T, what string, n api.Node) api.Node {
	t.Helper()
	before := ast.Clone(n)
	got, place, e := Program(n)
	if place != 0 || e != api.OK {
		t.Errorf("%s: place %d, error %d, not accepted", what, place, e)
		return got
	}
	same(t, what+": the tree without types", ast.Same(ast.Bare(got), ast.Bare(n)), true)
	same(t, what+": what was handed in stays", reflect.DeepEqual(ast.Clone(n), before), true)
	for at, spot := range ast.All(got) {
		if spot.Kind >= api.NodeInt && ast.TypeName(spot.T) == "" {
			t.Errorf("%s: the expression at %d has no type", what, at)
		}
	}
	again, place, e := Program(got)
	if place != 0 || e != api.OK || !ast.Same(got, again) {
		t.Errorf("%s: what was accepted is not accepted as it is: place %d, error %d", what, place, e)
	}
	return got
}

// rejects tells that a tree is rejected at a place.
func rejects(t *testing.T, what string, n api.Node, place int, why api.Errno) {
	t.Helper()
	before := ast.Clone(n)
	got, at, e := Program(n)
	if at != place || e != why {
		t.Errorf("%s: place %d, error %d, not place %d, error %d", what, at, e, place, why)
	}
	if !reflect.DeepEqual(got, api.Node{}) {
		t.Errorf("%s: a tree beside an error", what)
	}
	same(t, what+": what was handed in stays", reflect.DeepEqual(ast.Clone(n), before), true)
}

// Declarations that are accepted, to stand ahead of others and behind them.
const (
	ahead2  = "var ahead_1 bool = true; func ahead_2(a int, b int) int { return a; } "
	behind2 = " test behind_1 { a := 1; } func behind_2(x float) float { a := x; return a; }"
)

// taken tells that a text is accepted, whatever stands around it; it is what is answered of it.
func taken(t *testing.T, s string) api.Node {
	t.Helper()
	accepts(t, short(ahead2+s), treeOf(t, ahead2+s))
	accepts(t, short(s+behind2), treeOf(t, s+behind2))
	return accepts(t, short(s), treeOf(t, s))
}

// refused tells that a text is rejected at a place, whatever stands around it: what is rejected behind it, too.
func refused(t *testing.T, s string, place int, why api.Errno) {
	t.Helper()
	rejects(t, short(s), treeOf(t, s), place, why)
	rejects(t, short(ahead2+s), treeOf(t, ahead2+s), place+2, why)
	rejects(t, short(s+behind2), treeOf(t, s+behind2), place, why)
	rejects(t, "with another one behind it that is rejected: "+short(s), treeOf(t, s+" test behind_3 { no_such(); }"), place, why)
}

// Short words for nodes.

func node(kind int, kids ...api.Node) api.Node { return api.Node{Kind: kind, Kids: kids} }

func named(kind int, s string, kids ...api.Node) api.Node {
	return api.Node{Kind: kind, S: s, Kids: kids}
}

func typed(kind, t int, s string, kids ...api.Node) api.Node {
	return api.Node{Kind: kind, T: t, S: s, Kids: kids}
}

func whole(n int64) api.Node { return api.Node{Kind: api.NodeInt, N: n} }

func yes() api.Node { return api.Node{Kind: api.NodeBool, N: 1} }

func name(s string) api.Node { return named(api.NodeVar, s) }

func call(s string, kids ...api.Node) api.Node { return named(api.NodeCall, s, kids...) }

func bin(a api.Node, s string, b api.Node) api.Node { return named(api.NodeBin, s, a, b) }

func block(kids ...api.Node) api.Node { return node(api.NodeBlock, kids...) }

func skip() api.Node { return node(api.NodeSkip) }

func global(s string, t int, kids ...api.Node) api.Node { return typed(api.NodeGlobal, t, s, kids...) }

func param(s string, t int) api.Node { return typed(api.NodeParam, t, s) }

func function(s string, t int, kids ...api.Node) api.Node { return typed(api.NodeFunc, t, s, kids...) }

func testOf(s string, kids ...api.Node) api.Node { return named(api.NodeTest, s, kids...) }

// inTest is a program with one test of these statements.
func inTest(statements ...api.Node) api.Node { return program(testOf("t", block(statements...))) }
