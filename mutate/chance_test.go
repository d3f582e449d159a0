package mutate

import (
	"math/rand"
	"slices"
	"testing"

	"cupel/api"
	"cupel/ast"
	"cupel/check"
)

// inOrder tells that mutants stand in their order, each once: by functions in the program's order, places, turns from 0 on.
func inOrder(t *testing.T, p api.Node, list []api.Mutant) {
	t.Helper()
	names := ast.Names(p, api.NodeFunc)
	for i := 1; i < len(list); i++ {
		a, b := list[i-1], list[i]
		f, g := slices.Index(names, a.Func), slices.Index(names, b.Func)
		behind := f < g || f == g && a.Node < b.Node
		next := f == g && a.Node == b.Node && b.Turn == a.Turn+1
		if f < 0 || g < 0 || !(next || behind && b.Turn == 0) {
			t.Errorf("%v ahead of %v", a, b)
		}
	}
	if len(list) > 0 {
		same(t, "the first turn", list[0].Turn, 0)
	}
}

// Promises 15.1 and 15.2: programs by chance: their mutants are those of their texts, in order, and check takes each of them.
func TestMutantsByChance(t *testing.T) {
	rnd := rand.New(rand.NewSource(1))
	mutants := 0
	for range 400 {
		m := maker{rnd: rnd}
		p := m.program()
		withTypes := typesOf(t, p)
		list := List(p)
		if len(list) == api.MaxSites {
			continue
		}
		inOrder(t, p, list)
		mutants += asTexts(t, p)
		for _, x := range list {
			got, e := Apply(withTypes, x)
			same(t, "the error", e, api.OK)
			sameTree(t, "check takes it, and finds the types that it has", got, typesOf(t, got))
			bare, _ := Apply(p, x)
			sameTree(t, "without types", bare, ast.Bare(got))
			onlyOther(t, p, bare, x)
		}
	}
	if mutants < 10000 {
		t.Errorf("too few mutants: %d", mutants)
	}
}

// Promise 15.2: of mutants of mutants, too: functions that stay keep the digests of their mutants, the one that is changed keeps none.
func TestDigestsByChance(t *testing.T) {
	rnd := rand.New(rand.NewSource(2))
	kept, changed := 0, 0
	for range 100 {
		m := maker{rnd: rnd}
		p := m.program()
		for range 4 {
			list := List(p)
			if len(list) == 0 {
				break
			}
			by := list[rnd.Intn(len(list))]
			q, _ := Apply(p, by)
			for _, x := range list {
				stays := ID(p, x) == ID(q, x)
				same(t, "stays", stays, x.Func != by.Func)
				if stays {
					kept++
				} else {
					changed++
				}
			}
			p = q
		}
	}
	if kept < 1000 || changed < 1000 {
		t.Errorf("too few: %d kept, %d changed", kept, changed)
	}
}

// wreck is a tree with one part of a node changed to anything.
func wreck(rnd *rand.Rand, p api.Node) api.Node {
	place := rnd.Intn(ast.Count(p))
	n, _ := ast.At(p, place)
	other, _ := ast.At(p, rnd.Intn(ast.Count(p)))
	switch rnd.Intn(8) {
	case 0:
		n.Kind = rnd.Intn(30)
	case 1:
		n.T = rnd.Intn(6) - 1
	case 2:
		n.S = []string{"", "x", other.S, other.S, "?", "+", "!", "int", "1.5"}[rnd.Intn(9)]
	case 3:
		n.N = []int64{0, 1, -1, 2, other.N, 1 << 62, -1 << 63}[rnd.Intn(7)]
	case 4, 5:
		n = other
	case 6:
		if len(n.Kids) > 0 {
			i := rnd.Intn(len(n.Kids))
			n.Kids = append(n.Kids[:i], n.Kids[i+1:]...)
		}
	case 7:
		i := rnd.Intn(len(n.Kids) + 1)
		n.Kids = append(n.Kids[:i], append([]api.Node{other}, n.Kids[i:]...)...)
	}
	return ast.Replace(p, place, n)
}

// answered tells that all calls answer of anything, and that it stays; of a function's name that stands once each mutant of the list may be applied.
func answered(t *testing.T, p api.Node) {
	t.Helper()
	was := ast.Clone(p)
	names := map[string]int{}
	for _, name := range ast.Names(p, api.NodeFunc) {
		names[name]++
	}
	list := List(p)
	if len(list) > api.MaxSites {
		t.Errorf("%d mutants", len(list))
	}
	_, _, accepted := check.Program(p)
	for _, m := range list {
		got, e := Apply(p, m)
		if names[m.Func] == 1 && e != api.OK {
			t.Errorf("%v of %s: error %d", m, short(ast.Print(p)), e)
		}
		if e != api.OK {
			sameTree(t, "beside an error", got, api.Node{})
		}
		if _, _, e := check.Program(got); accepted == api.OK && e != api.OK {
			t.Errorf("%s is rejected: error %d", short(ast.Print(got)), e)
		}
		same(t, "a digest", len(ID(p, m)), api.HashBytes)
	}
	for _, n := range []api.Mutant{{}, {Func: "x", Node: 3}, {Func: "a1", Node: -1, Turn: 7}, {Node: 2}} {
		Apply(p, n)
		ID(p, n)
	}
	sameTree(t, "what was handed in", p, was)
}

// Rule R1: programs by chance with any part otherwise.
func TestWreckedPrograms(t *testing.T) {
	rnd := rand.New(rand.NewSource(3))
	for i := range 500 {
		m := maker{rnd: rnd}
		p := m.program()
		for range 1 + i%4 {
			p = wreck(rnd, p)
		}
		answered(t, p)
	}
}

// Rule R1: any trees, of any nodes.
func TestAnyTree(t *testing.T) {
	rnd := rand.New(rand.NewSource(4))
	var any func(depth int) api.Node
	any = func(depth int) api.Node {
		n := api.Node{Kind: rnd.Intn(30), T: rnd.Intn(5) - 1, S: []string{"", "a", "b", "+", "!", "-", "==", "1.5"}[rnd.Intn(8)], N: int64(rnd.Intn(4) - 1)}
		for range rnd.Intn(4) {
			if depth > 0 {
				n.Kids = append(n.Kids, any(depth-1))
			}
		}
		return n
	}
	for range 3000 {
		n := any(4)
		answered(t, n)
		for i := range n.Kids {
			n.Kids[i].Kind = api.NodeFunc
		}
		answered(t, n)
	}
}

// Rule R1: trees that are very deep, and very wide.
func TestGreatTrees(t *testing.T) {
	deep, bare, wide := whole(1), whole(1), block()
	for range 1<<16 - 100 {
		deep = named(api.NodeUnary, "-", deep)
		bare = tree(api.NodeConv, bare)
		wide.Kids = append(wide.Kids, named(api.NodeAssign, "x", whole(2)))
	}
	for what, row := range map[string]struct {
		f    api.Node
		want int
	}{"deep": {deep, 400}, "deep, with one at the end": {bare, 1}, "wide": {wide, 400}} {
		p := program(named(api.NodeFunc, "f", row.f))
		list := List(p)
		same(t, what, len(list), row.want)
		last := list[len(list)-1]
		got, e := Apply(p, last)
		same(t, what+": the error", e, api.OK)
		onlyOther(t, p, got, last)
		same(t, what+": a digest", len(ID(p, last)), api.HashBytes)
	}
	same(t, "wide in functions", len(List(program(slices.Repeat([]api.Node{named(api.NodeFunc, "f", whole(1))}, 100000)...))), 400)
}
