package graph

import (
	"math/rand"
	"reflect"
	"slices"
	"strconv"
	"testing"

	"cupel/api"
	"cupel/ast"
)

// answered tells that all calls answer of anything, the same when they are asked twice, and that what is handed in stays as it was.
func answered(t *testing.T, p, old api.Node) {
	t.Helper()
	wasP, wasOld := ast.Clone(p), ast.Clone(old)
	for range 2 {
		all := []string{"", "a", "nobody", "+"}
		for _, d := range p.Kids {
			all = append(all, d.S)
		}
		for _, name := range all {
			uses, closure, hash := Uses(p, name), Closure(p, name), Hash(p, name)
			inOrder(t, "uses", uses)
			inOrder(t, "closure", closure)
			_, is := ast.Find(p, name)
			same(t, "in its own closure", slices.Contains(closure, name), is)
			same(t, "a digest", len(hash), api.HashBytes)
			sameNames(t, "asked twice", Uses(p, name), uses...)
			sameNames(t, "asked twice", Closure(p, name), closure...)
			same(t, "asked twice", Hash(p, name), hash)
			for _, used := range uses {
				same(t, "what is used is in the closure", slices.Contains(closure, used), true)
			}
		}
		changed, again := Changed(p, old), Select(p, old)
		inOrder(t, "changed", changed)
		sameNames(t, "asked twice", Changed(p, old), changed...)
		sameNames(t, "from the other side", Changed(old, p), changed...)
		sameNames(t, "asked twice", Select(p, old), again...)
		for _, name := range again {
			same(t, "a test", slices.Contains(ast.Names(p, api.NodeTest), name), true)
		}
		sameNames(t, "between it and itself", Changed(p, p))
		sameNames(t, "behind itself", Select(p, p))
		p, old = old, p
	}
	if !reflect.DeepEqual(ast.Clone(p), wasP) || !reflect.DeepEqual(ast.Clone(old), wasOld) {
		t.Errorf("%s: what was handed in does not stay", short(ast.Print(p)))
	}
}

// inOrder tells that names rise, so that each is told once.
func inOrder(t *testing.T, what string, names []string) {
	t.Helper()
	for i := 1; i < len(names); i++ {
		if names[i-1] >= names[i] {
			t.Errorf("%s: %q ahead of %q", what, names[i-1], names[i])
		}
	}
}

// wreck is a tree with one part of a node changed to anything.
func wreck(rnd *rand.Rand, p api.Node) api.Node {
	place := rnd.Intn(ast.Count(p))
	n, _ := ast.At(p, place)
	other, _ := ast.At(p, rnd.Intn(ast.Count(p)))
	switch rnd.Intn(8) {
	case 0:
		n.Kind = rnd.Intn(30)
	case 1:
		n.T = rnd.Intn(6) - 1
	case 2:
		n.S = []string{"", "x", other.S, other.S, "?", "+", "int"}[rnd.Intn(7)]
	case 3:
		n.N = []int64{0, 1, -1, 2, other.N, 1 << 62, -1 << 63}[rnd.Intn(7)]
	case 4, 5:
		n = other
	case 6:
		if len(n.Kids) > 0 {
			i := rnd.Intn(len(n.Kids))
			n.Kids = append(n.Kids[:i], n.Kids[i+1:]...)
		}
	case 7:
		i := rnd.Intn(len(n.Kids) + 1)
		n.Kids = append(n.Kids[:i], append([]api.Node{other}, n.Kids[i:]...)...)
	}
	return ast.Replace(p, place, n)
}

// Rule R1: programs by chance with any part otherwise.
func TestWreckedPrograms(t *testing.T) {
	rnd := rand.New(rand.NewSource(4))
	for i := range 400 {
		m := maker{rnd: rnd}
		p := m.program()
		q := p
		for range 1 + i%4 {
			q = wreck(rnd, q)
		}
		answered(t, q, p)
	}
}

// Rule R1: any trees, of any nodes.
func TestAnyTree(t *testing.T) {
	rnd := rand.New(rand.NewSource(5))
	var any func(depth int) api.Node
	any = func(depth int) api.Node {
		n := api.Node{Kind: rnd.Intn(30), T: rnd.Intn(5) - 1, S: []string{"", "a", "b", "c", "+", "1.5"}[rnd.Intn(6)], N: int64(rnd.Intn(4) - 1)}
		for range rnd.Intn(4) {
			if depth > 0 {
				n.Kids = append(n.Kids, any(depth-1))
			}
		}
		return n
	}
	for range 2000 {
		n, old := any(4), any(4)
		answered(t, n, old)
		for i := range n.Kids {
			n.Kids[i].Kind = api.NodeGlobal + rnd.Intn(3)
		}
		answered(t, n, old)
	}
	answered(t, api.Node{}, api.Node{})
}

// Promise 16.1: of two declarations with one name, which check rejects, the first one counts, as ast.Find has it; a test is told as often as it stands.
func TestTwoOfOneName(t *testing.T) {
	p := rejected(t, "func f() int { return g(); } func f() int { return v; } func g() int { return 1; } var v int = 1; test t { f(); }")
	usesOf(t, p, "f", "g")
	closureOf(t, p, "t", "f g t")
	q := treeOf(t, "func f() int { return g(); } func g() int { return 1; } var v int = 1; test t { f(); }")
	same(t, "the digest", Hash(p, "t"), Hash(q, "t"))
	sameNames(t, "changed", Changed(p, q))
	sameNames(t, "again", Select(p, q))
	twice := rejected(t, "test t { skip; } test u { } test t { }")
	sameNames(t, "again", Select(twice, treeOf(t, "test t { }")), "t", "u", "t")
	sameNames(t, "again", Select(twice, treeOf(t, "test t { skip; }")), "u")
	sameNames(t, "again", Select(rejected(t, "var t int = 1; test t { }"), treeOf(t, "var t int = 1;")), "t")
	sameNames(t, "again", Select(treeOf(t, "var t int = 1;"), rejected(t, "var t int = 1; test t { }")))
}

// Rules R1 and R2: what is handed in stays, and what is answered is the caller's own.
func TestAnswersAreOwn(t *testing.T) {
	p, old := treeOf(t, laws), treeOf(t, lawV+lawG+lawT+lawF)
	calls := map[string]func() []string{
		"uses":    func() []string { return Uses(p, "t") },
		"closure": func() []string { return Closure(p, "t") },
		"changed": func() []string { return Changed(p, old) },
		"select":  func() []string { return Select(p, old) },
	}
	for what, call := range calls {
		list := call()
		want := slices.Clone(list)
		all := list[:cap(list)] // what lies behind a list is not another one's, either
		for i := range all {
			all[i] = "spoilt"
		}
		sameNames(t, what, call(), want...)
		if len(want) == 0 {
			t.Errorf("%s: nothing was answered", what)
		}
	}
	answered(t, p, old)
}

// Rule R1: programs that are very deep, and very wide, much beyond what a text may have.
func TestGreatPrograms(t *testing.T) {
	deep := named(api.NodeCall, "g", named(api.NodeVar, "v"))
	for range 1<<16 - 100 {
		deep = named(api.NodeUnary, "-", deep)
	}
	p := program(named(api.NodeGlobal, "v"), named(api.NodeFunc, "f", deep), named(api.NodeFunc, "g"), named(api.NodeTest, "t", named(api.NodeCall, "f")))
	closureOf(t, p, "t", "f g t v")
	q := ast.Clone(p)
	q.Kids[0].N++
	sameNames(t, "deep: changed", Changed(p, q), "v")
	sameNames(t, "deep: again", Select(p, q), "t")

	const many = 20000
	var row api.Node
	for i := range many { // each calls the next one, the last one none
		row.Kids = append(row.Kids, named(api.NodeFunc, "f"+strconv.Itoa(i), named(api.NodeCall, "f"+strconv.Itoa(i+1))))
	}
	row.Kids = append(row.Kids, named(api.NodeTest, "t", named(api.NodeCall, "f0")))
	same(t, "a row: its closure", len(Closure(row, "t")), many+1)
	other := ast.Clone(row)
	other.Kids[many-1].T++
	sameNames(t, "a row: changed", Changed(other, row), "f"+strconv.Itoa(many-1))
	sameNames(t, "a row: again", Select(other, row), "t")

	wide := ast.Clone(row) // one calls all
	for i := range many {
		wide.Kids[i].Kids = nil
		wide.Kids[many].Kids = append(wide.Kids[many].Kids, named(api.NodeCall, "f"+strconv.Itoa(i)), named(api.NodeCall, "f0"))
	}
	same(t, "wide: uses", len(Uses(wide, "t")), many)
	same(t, "wide: its closure", len(Closure(wide, "t")), many+1)
	same(t, "wide: changed", len(Changed(wide, row)), many+1)
	sameNames(t, "wide: again", Select(wide, row), "t")
}
