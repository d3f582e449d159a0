package kill

import (
	"reflect"
	"strconv"
	"strings"
	"testing"

	"cupel/api"
	"cupel/ast"
	"cupel/parse"
)

func same[T comparable](t *testing.T, what string, got, want T) {
	t.Helper()
	if got != want {
		t.Errorf("%s: %v, not %v", what, got, want)
	}
}

func sameTree(t *testing.T, what string, got, want api.Node) {
	t.Helper()
	if !ast.Same(got, want) {
		t.Errorf("%s: %s, not %s", what, short(ast.Print(got)), short(ast.Print(want)))
	}
}

// short is a text that may be told of a failure.
func short(s string) string {
	if len(s) > 600 {
		s = s[:300] + " .. " + s[len(s)-300:]
	}
	return strconv.Quote(s)
}

// parsed is the tree of a text, which need not be accepted.
func parsed(t *testing.T, s string) api.Node {
	t.Helper()
	n, at, e := parse.Program(s)
	if e != api.OK {
		t.Fatalf("%s is no text: place %d, error %d", short(s), at, e)
	}
	return n
}

// sourceOf is the program of a text, which must be one that may be.
func sourceOf(t *testing.T, s string) api.Node {
	t.Helper()
	p, at, e := Source(s)
	if e != api.OK || at != 0 {
		t.Fatalf("%s may not be: place %d, error %d", short(s), at, e)
	}
	return p
}

// matrixOf is the matrix of a program that may be.
func matrixOf(t *testing.T, p api.Node, fuel int) api.Matrix {
	t.Helper()
	was := ast.Clone(p)
	m, e := Matrix(p, fuel)
	same(t, "the matrix's error", e, api.OK)
	if !reflect.DeepEqual(ast.Clone(p), was) {
		t.Errorf("%s: what was handed in does not stay", short(ast.Print(p)))
	}
	return m
}

// told is a matrix in words that tell all of it: its tests with their base, each mutant with its cells.
func told(m api.Matrix) string {
	var lines []string
	line := ""
	for i, name := range m.Tests {
		line += name + "=" + strconv.Itoa(m.Base[i]) + " "
	}
	lines = append(lines, strings.TrimSpace(line))
	for i, x := range m.Mutants {
		line := x.Func + "." + strconv.Itoa(x.Node) + "." + strconv.Itoa(x.Turn) + ":"
		for _, cell := range m.Cells[i] {
			line += " " + strconv.Itoa(cell)
		}
		lines = append(lines, line)
	}
	if len(m.Base) != len(m.Tests) || len(m.Cells) != len(m.Mutants) {
		lines = append(lines, "lists do not fit")
	}
	return strings.Join(lines, "\n")
}

// tells holds a text's matrix against lines.
func tells(t *testing.T, s string, fuel int, lines ...string) api.Matrix {
	t.Helper()
	m := matrixOf(t, parsed(t, s), fuel)
	if got, want := told(m), strings.Join(lines, "\n"); got != want {
		t.Errorf("%s, fuel %d:\n%s\nnot\n%s", short(s), fuel, got, want)
	}
	return m
}

// counts holds how many mutants a matrix has, and how many are killed, against numbers.
func counts(t *testing.T, what string, m api.Matrix, mutants, killed int) {
	t.Helper()
	all, gone := Count(m)
	same(t, what+": mutants", all, mutants)
	same(t, what+": killed", gone, killed)
}

// alike tells that two matrices are the same, from both sides.
func alike(t *testing.T, what string, a, b api.Matrix) {
	t.Helper()
	if !Same(a, b) || !Same(b, a) || !reflect.DeepEqual(full(a), full(b)) {
		t.Errorf("%s: %v is not %v", what, a, b)
	}
}

// unlike tells that two matrices are not the same, from both sides.
func unlike(t *testing.T, what string, a, b api.Matrix) {
	t.Helper()
	if Same(a, b) || Same(b, a) {
		t.Errorf("%s: %v is %v", what, a, b)
	}
}

// full is a matrix without nil lists.
func full(m api.Matrix) api.Matrix {
	own := api.Matrix{Tests: append([]string{}, m.Tests...), Base: append([]int{}, m.Base...), Mutants: append([]api.Mutant{}, m.Mutants...), Cells: [][]int{}}
	for _, row := range m.Cells {
		own.Cells = append(own.Cells, append([]int{}, row...))
	}
	return own
}

// Short words for nodes.

func tree(kind int, kids ...api.Node) api.Node { return api.Node{Kind: kind, Kids: kids} }

func named(kind int, s string, kids ...api.Node) api.Node {
	return api.Node{Kind: kind, S: s, Kids: kids}
}

func typed(kind, t int, s string, kids ...api.Node) api.Node {
	return api.Node{Kind: kind, T: t, S: s, Kids: kids}
}

func whole(n int64) api.Node { return api.Node{Kind: api.NodeInt, N: n} }

func truth(n int64) api.Node { return api.Node{Kind: api.NodeBool, N: n} }

func bin(a api.Node, s string, b api.Node) api.Node { return named(api.NodeBin, s, a, b) }

func block(kids ...api.Node) api.Node { return tree(api.NodeBlock, kids...) }

func program(declarations ...api.Node) api.Node { return tree(api.NodeProgram, declarations...) }
