package graph

import (
	"slices"
	"strconv"
	"strings"
	"testing"

	"cupel/api"
	"cupel/ast"
	"cupel/check"
	"cupel/parse"
)

func same[T comparable](t *testing.T, what string, got, want T) {
	t.Helper()
	if got != want {
		t.Errorf("%s: %v, not %v", what, got, want)
	}
}

// sameNames tells that an answer is just these names, in this order.
func sameNames(t *testing.T, what string, got []string, want ...string) {
	t.Helper()
	if !slices.Equal(got, want) {
		t.Errorf("%s: %q, not %q", what, got, want)
	}
}

func sameTree(t *testing.T, what string, got, want api.Node) {
	t.Helper()
	if !ast.Same(got, want) {
		t.Errorf("%s: %s, not %s", what, short(ast.Print(got)), short(ast.Print(want)))
	}
}

// short is a text that may be told of a failure.
func short(s string) string {
	if len(s) > 600 {
		s = s[:300] + " .. " + s[len(s)-300:]
	}
	return strconv.Quote(s)
}

// parsed is the tree of a text, which need not be accepted.
func parsed(t *testing.T, s string) api.Node {
	t.Helper()
	n, at, e := parse.Program(s)
	if e != api.OK {
		t.Fatalf("%s is no text: place %d, error %d", short(s), at, e)
	}
	return n
}

// treeOf is the tree of a text, which must have one that is accepted.
func treeOf(t *testing.T, s string) api.Node {
	t.Helper()
	n := parsed(t, s)
	typesOf(t, n)
	return n
}

// typesOf is a program with the types of its expressions: it must be one that may be.
func typesOf(t *testing.T, p api.Node) api.Node {
	t.Helper()
	n, at, e := check.Program(p)
	if e != api.OK {
		t.Fatalf("%s is rejected: place %d, error %d", short(ast.Print(p)), at, e)
	}
	return n
}

// rejected is the tree of a text that check rejects.
func rejected(t *testing.T, s string) api.Node {
	t.Helper()
	n := parsed(t, s)
	if _, _, e := check.Program(n); e == api.OK {
		t.Fatalf("%s is accepted", short(s))
	}
	return n
}

// usesOf tells what a declaration of a program uses, in words: f g v.
func usesOf(t *testing.T, p api.Node, name, want string) {
	t.Helper()
	sameNames(t, short(ast.Print(p))+" uses of "+name, Uses(p, name), strings.Fields(want)...)
}

// closureOf tells what a declaration's closure in a program is, in words.
func closureOf(t *testing.T, p api.Node, name, want string) {
	t.Helper()
	sameNames(t, short(ast.Print(p))+" closure of "+name, Closure(p, name), strings.Fields(want)...)
}

// changed tells what is changed between the texts of two programs, in words, from either side.
func changed(t *testing.T, a, b, want string) {
	t.Helper()
	p, q := treeOf(t, a), treeOf(t, b)
	sameNames(t, short(a)+" and "+short(b), Changed(p, q), strings.Fields(want)...)
	sameNames(t, short(b)+" and "+short(a), Changed(q, p), strings.Fields(want)...)
	sameNames(t, short(a)+" and "+short(b)+", with types", Changed(typesOf(t, p), q), strings.Fields(want)...)
}

// selected tells which tests of a text must be run again behind that of an old one, in words.
func selected(t *testing.T, now, old, want string) {
	t.Helper()
	p, q := treeOf(t, now), treeOf(t, old)
	sameNames(t, short(now)+" behind "+short(old), Select(p, q), strings.Fields(want)...)
	sameNames(t, short(now)+" behind "+short(old)+", with types", Select(p, typesOf(t, q)), strings.Fields(want)...)
}

// Short words for nodes.

func tree(kind int, kids ...api.Node) api.Node { return api.Node{Kind: kind, Kids: kids} }

func named(kind int, s string, kids ...api.Node) api.Node {
	return api.Node{Kind: kind, S: s, Kids: kids}
}

func typed(kind, t int, s string, kids ...api.Node) api.Node {
	return api.Node{Kind: kind, T: t, S: s, Kids: kids}
}

func whole(n int64) api.Node { return api.Node{Kind: api.NodeInt, N: n} }

func truth(n int64) api.Node { return api.Node{Kind: api.NodeBool, N: n} }

func bin(a api.Node, s string, b api.Node) api.Node { return named(api.NodeBin, s, a, b) }

func block(kids ...api.Node) api.Node { return tree(api.NodeBlock, kids...) }

func program(declarations ...api.Node) api.Node { return tree(api.NodeProgram, declarations...) }
