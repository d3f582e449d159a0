package graph

import (
	"slices"
	"strings"
	"testing"

	"cupel/api"
	"cupel/ast"
	"cupel/lex"
)

// The chapter's words put a second time, over texts: what a declaration uses is found by the words of its text alone, what it comes to by a table of all pairs, and what is changed by holding texts against each other. It is of programs that are accepted.

// model is a program's texts, by the names that they declare.
type model struct {
	p      api.Node
	lines  map[string]string
	reach  map[string]map[string]int // how each comes to each: in one step or more
	inText []string                  // the names, as they stand in the program
}

func modelOf(t *testing.T, p api.Node) *model {
	t.Helper()
	m := &model{p: p, lines: map[string]string{}, reach: map[string]map[string]int{}}
	for line := range strings.Lines(ast.Print(p)) {
		name, _, _ := strings.Cut(strings.Fields(line)[1], "(")
		m.lines[name] = line
		m.inText = append(m.inText, name)
	}
	for _, name := range m.inText {
		m.reach[name] = map[string]int{}
		for _, used := range m.uses(t, name) {
			m.reach[name][used]++
		}
	}
	for _, over := range m.inText { // by each one that is between two
		for _, from := range m.inText {
			for _, to := range m.inText {
				if m.reach[from][over] > 0 && m.reach[over][to] > 0 {
					m.reach[from][to]++
				}
			}
		}
	}
	return m
}

// uses is what a declaration uses, sorted: of the names behind its own those of functions with a bracket behind, and those of globals with none.
func (m *model) uses(t *testing.T, name string) []string {
	words, _, e := lex.Tokens(m.lines[name])
	if e != api.OK {
		t.Fatalf("%s: no words", short(m.lines[name]))
	}
	var list []string
	for i := 2; i+1 < len(words); i++ {
		head := "var "
		if words[i+1].S == "(" {
			head = "func "
		}
		if words[i].Kind == api.TokName && strings.HasPrefix(m.lines[words[i].S], head) {
			list = append(list, words[i].S)
		}
	}
	slices.Sort(list)
	return slices.Compact(list)
}

// closure is a declaration and all that it comes to, sorted.
func (m *model) closure(name string) []string {
	if m.lines[name] == "" {
		return nil
	}
	list := []string{name}
	for _, other := range m.inText {
		if other != name && m.reach[name][other] > 0 {
			list = append(list, other)
		}
	}
	slices.Sort(list)
	return list
}

// hash is the digest of a closure, by the library.
func (m *model) hash(name string) string {
	var parts []string
	for _, part := range m.closure(name) {
		d := m.p.Kids[slices.Index(m.inText, part)]
		parts = append(parts, part, ast.Hash(d))
	}
	return digest('L', parts...)
}

// texts is all of a closure as one text.
func (m *model) texts(name string) string {
	s := ""
	for _, part := range m.closure(name) {
		s += m.lines[part]
	}
	return s
}

// changedFrom is the names of what is not, or otherwise, in one of two programs, sorted.
func (m *model) changedFrom(other *model) []string {
	var list []string
	for _, name := range append(slices.Clone(m.inText), other.inText...) {
		if m.lines[name] != other.lines[name] {
			list = append(list, name)
		}
	}
	slices.Sort(list)
	return slices.Compact(list)
}

// again is the tests to run again behind an old program: those with other texts in their closures.
func (m *model) again(old *model) []string {
	var list []string
	for _, name := range m.inText {
		if strings.HasPrefix(m.lines[name], "test ") && (!strings.HasPrefix(old.lines[name], "test ") || m.texts(name) != old.texts(name)) {
			list = append(list, name)
		}
	}
	return list
}

// asModel tells that all that is asked of a program alone is as the model has it.
func asModel(t *testing.T, p api.Node) *model {
	t.Helper()
	m := modelOf(t, p)
	for _, name := range append(slices.Clone(m.inText), "", "p", "?") {
		what := short(ast.Print(p)) + ": of " + name
		sameNames(t, "uses of "+what, Uses(p, name), m.uses(t, name)...)
		sameNames(t, "closure of "+what, Closure(p, name), m.closure(name)...)
		same(t, "hash of "+what, Hash(p, name), m.hash(name))
	}
	return m
}

// asModels tells that all that is asked of two programs is as the models have it.
func asModels(t *testing.T, now, old *model) {
	t.Helper()
	what := short(ast.Print(now.p)) + " behind " + short(ast.Print(old.p))
	sameNames(t, "changed: "+what, Changed(now.p, old.p), now.changedFrom(old)...)
	sameNames(t, "again: "+what, Select(now.p, old.p), now.again(old)...)
}

// Promise 16.1: the model itself, by hand.
func TestModel(t *testing.T) {
	p := treeOf(t, "var v int = 1; var w int = 2; func g(f int) int { w = f; return v; } func f() int { return (g(1)); } test t { f := f(); g := int(1.5); assert f == g; }")
	q := treeOf(t, "test t { assert f() == 1; } func f() int { return 1; } var v int = 1;")
	m, n := asModel(t, p), asModel(t, q)
	sameNames(t, "uses", m.uses(t, "g"), "v", "w")
	sameNames(t, "uses", m.uses(t, "t"), "f")
	sameNames(t, "closure", m.closure("t"), "f", "g", "t", "v", "w")
	sameNames(t, "changed", m.changedFrom(n), "f", "g", "t", "w")
	sameNames(t, "again", n.again(m), "t")
	sameNames(t, "again", n.again(n))
	asModels(t, m, n)
	asModels(t, n, m)
}
