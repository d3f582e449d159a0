package mutate

import (
	"fmt"
	"slices"
	"strconv"
	"strings"
	"testing"

	"cupel/api"
	"cupel/ast"
	"cupel/check"
	"cupel/parse"
)

func same[T comparable](t *testing.T, what string, got, want T) {
	t.Helper()
	if got != want {
		t.Errorf("%s: %v, not %v", what, got, want)
	}
}

func sameTree(t *testing.T, what string, got, want api.Node) {
	t.Helper()
	if !ast.Same(got, want) {
		t.Errorf("%s: %s, not %s", what, short(fmt.Sprint(got)), short(fmt.Sprint(want)))
	}
}

func sameTrees(t *testing.T, what string, got, want []api.Node) {
	t.Helper()
	if !slices.EqualFunc(got, want, ast.Same) {
		t.Errorf("%s: %s, not %s", what, short(fmt.Sprint(got)), short(fmt.Sprint(want)))
	}
}

// short is a text that may be told of a failure.
func short(s string) string {
	if len(s) > 600 {
		s = s[:300] + " .. " + s[len(s)-300:]
	}
	return strconv.Quote(s)
}

// treeOf is the tree of a text, which must have one that is accepted.
func treeOf(t *testing.T, s string) api.Node {
	t.Helper()
	n, at, e := parse.Program(s)
	if e != api.OK {
		t.Fatalf("%s is no text: place %d, error %d", short(s), at, e)
	}
	typesOf(t, n)
	return n
}

// typesOf is a program with the types of its expressions: it must be one that may be.
func typesOf(t *testing.T, p api.Node) api.Node {
	t.Helper()
	n, at, e := check.Program(p)
	if e != api.OK {
		t.Fatalf("%s is rejected: place %d, error %d", short(ast.Print(p)), at, e)
	}
	return n
}

// spoil changes all fields of all nodes below one, and of it.
func spoil(n *api.Node) {
	for i := range n.Kids {
		spoil(&n.Kids[i])
	}
	n.Kind, n.T, n.S, n.N = n.Kind+50, n.T+50, n.S+"?", n.N+50
	kids := n.Kids[:cap(n.Kids)] // what lies behind a list is not another one's, either
	for i := len(n.Kids); i < len(kids); i++ {
		kids[i] = api.Node{Kind: 99, S: "!"}
	}
}

// told is mutants as a text: f3.0 f3.1 g4.0.
func told(list []api.Mutant) string {
	var words []string
	for _, m := range list {
		words = append(words, m.Func+strconv.Itoa(m.Node)+"."+strconv.Itoa(m.Turn))
	}
	return strings.Join(words, " ")
}

// lists tells that a text has just these mutants, in this order; it is the tree.
func lists(t *testing.T, s, want string) api.Node {
	t.Helper()
	p := treeOf(t, s)
	same(t, short(s), told(List(p)), want)
	return p
}

// wide is a text of functions f0, f1 .. with so many mutants in all: an assignment each, of a name to itself, at most so many in one function.
func wide(mutants, most int) string {
	s := ""
	for i := 0; mutants > 0; i++ {
		now := min(mutants, most)
		s += "func f" + strconv.Itoa(i) + "(x int) int { " + strings.Repeat("x = x; ", now) + "return x; }\n"
		mutants -= now
	}
	return s
}

// Short words for nodes.

func tree(kind int, kids ...api.Node) api.Node { return api.Node{Kind: kind, Kids: kids} }

func named(kind int, s string, kids ...api.Node) api.Node {
	return api.Node{Kind: kind, S: s, Kids: kids}
}

func typed(kind, t int, s string, kids ...api.Node) api.Node {
	return api.Node{Kind: kind, T: t, S: s, Kids: kids}
}

func whole(n int64) api.Node { return api.Node{Kind: api.NodeInt, N: n} }

func truth(n int64) api.Node { return api.Node{Kind: api.NodeBool, N: n} }

func variable(s string) api.Node { return named(api.NodeVar, s) }

func bin(a api.Node, s string, b api.Node) api.Node { return named(api.NodeBin, s, a, b) }

func block(kids ...api.Node) api.Node { return tree(api.NodeBlock, kids...) }

func skip() api.Node { return tree(api.NodeSkip) }

func program(declarations ...api.Node) api.Node { return tree(api.NodeProgram, declarations...) }
