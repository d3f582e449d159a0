package interp

import (
	"math/rand"
	"slices"
	"testing"

	"cupel/api"
	"cupel/ast"
	"cupel/check"
)

// Promise 14.1: programs by chance, each of their tests, with much fuel, some, just enough and one less: as the chapter's words a second time answer it.
func TestProgramsByChance(t *testing.T) {
	rnd := rand.New(rand.NewSource(1))
	outcomes := map[int]int{}
	long := 0
	for range 3000 {
		m := maker{rnd: rnd}
		p := m.program()
		for _, test := range ast.Names(p, api.NodeTest) {
			most := agrees(t, p, test, api.MaxFuel)
			outcomes[most.Outcome]++
			if most.Steps > 50 {
				long++
			}
			for _, fuel := range []int{most.Steps, most.Steps - 1, rnd.Intn(most.Steps + 1), rnd.Intn(100)} {
				less := agrees(t, p, test, max(fuel, 0))
				if fuel >= most.Steps && most.Steps < api.MaxFuel && !sameResult(less, most) {
					t.Errorf("%s: with enough fuel %v, not %v", short(ast.Print(p)), less, most)
				}
			}
		}
	}
	for _, outcome := range []int{api.Pass, api.TrapAssert, api.TrapZero, api.TrapConv, api.TrapDeep, api.TrapFuel} {
		if outcomes[outcome] < 30 {
			t.Errorf("too few of a sort: %v", outcomes)
		}
	}
	if long < 500 {
		t.Errorf("too few that are long: %d", long)
	}
}

// agrees tells that a run answers what the model does; it is what it answers.
func agrees(t *testing.T, p api.Node, test string, fuel int) api.Result {
	t.Helper()
	got, e := Run(p, test, fuel)
	want := modelled(p, test, fuel)
	if e != api.OK || !sameResult(got, want) {
		t.Fatalf("%s, test %s, fuel %d: %v, error %d, not %v", ast.Print(p), test, fuel, got, e, want)
	}
	return got
}

// Promise 14.1: the texts of the other tests here, too.
func TestTextsAgainstTheModel(t *testing.T) {
	for _, s := range []string{all, counting + "test t { inc(); }", down + "test t { f(64); }", down + "test t { f(65); }"} {
		p := treeOf(t, s)
		steps := agrees(t, p, "t", api.MaxFuel).Steps
		for fuel := range steps + 2 {
			agrees(t, p, "t", fuel)
		}
	}
}

// Promise 14.1: with one step more of fuel a test comes to one node more at most, and to all that it came to before.
func TestCoverGrows(t *testing.T) {
	rnd := rand.New(rand.NewSource(2))
	for range 40 {
		m := maker{rnd: rnd}
		p := m.program()
		test := ast.Names(p, api.NodeTest)[0]
		var before []api.Site
		for fuel := range 150 {
			got := run(t, p, test, fuel)
			new := 0
			for _, site := range got.Cover {
				if !slices.Contains(before, site) {
					new++
				}
			}
			if len(got.Cover) != len(before)+new || new > 1 || len(got.Cover) > got.Steps {
				t.Fatalf("%s: fuel %d: from %v to %v", short(ast.Print(p)), fuel, before, got)
			}
			before = got.Cover
		}
	}
}

// Promise 14.2: a test that does not come to a node ends the same, whatever stands there: as many steps, and the same cover, but for places behind a tree of another size.
func TestNodesThatAreNotComeTo(t *testing.T) {
	rnd := rand.New(rand.NewSource(3))
	kinds := map[int]int{}
	for range 250 {
		m := maker{rnd: rnd}
		p := m.program()
		test := ast.Names(p, api.NodeTest)[0]
		before := run(t, p, test, api.MaxFuel)
		for at, d := range p.Kids {
			if d.Kind == api.NodeGlobal {
				continue
			}
			for place, n := range ast.All(d) {
				if n.Kind < api.NodeBlock || Covers(before, api.Site{Name: d.S, Node: place}) || rnd.Intn(3) > 0 {
					continue
				}
				by := m.other(n)
				q := ast.Clone(p)
				q.Kids[at] = ast.Replace(d, place, by)
				if _, _, e := check.Program(q); e != api.OK {
					continue
				}
				kinds[n.Kind]++
				after := run(t, q, test, api.MaxFuel)
				if !sameResult(after, moved(before, d.S, place, ast.Count(by)-ast.Count(n))) {
					t.Fatalf("%s, and at %s %d %s: %v, not %v", ast.Print(p), d.S, place, ast.Print(by), after, before)
				}
			}
		}
	}
	for kind := api.NodeBlock; kind <= api.NodeConv; kind++ {
		if kind == api.NodeSkip+1 {
			kind = api.NodeInt
		}
		if kinds[kind] < 20 {
			t.Errorf("too few of the kind %d: %v", kind, kinds)
		}
	}
}

// moved is a result whose places behind one of a declaration have moved.
func moved(r api.Result, name string, place, by int) api.Result {
	r.Cover = slices.Clone(r.Cover)
	for i, s := range r.Cover {
		if s.Name == name && s.Node > place {
			r.Cover[i].Node += by
		}
	}
	return r
}

// other is another tree for the place of a node, that may fit.
func (m *maker) other(n api.Node) api.Node {
	m.known = nil
	m.answers = m.typed()
	never := tree(api.NodeFor, truth(1), block(tree(api.NodeSkip)))
	switch {
	case n.Kind == api.NodeBlock:
		b := m.block(1, m.rnd.Intn(2) == 0)
		b.Kids = append([]api.Node{tree(api.NodeAssert, truth(0)), never}, b.Kids...)
		return b
	case n.Kind < api.NodeInt:
		return []api.Node{never, tree(api.NodeAssert, truth(0)), m.statement(2), tree(api.NodeReturn, m.expression(m.answers, 1))}[m.rnd.Intn(4)]
	case n.Kind == api.NodeCall && m.rnd.Intn(2) == 0:
		return m.call(m.functions[m.rnd.Intn(len(m.functions))], 2)
	}
	return m.expression(m.typed(), 2)
}

// Promise 14.1: the answers do not hang on the order of declarations.
func TestOrderOfDeclarations(t *testing.T) {
	rnd := rand.New(rand.NewSource(4))
	for range 300 {
		m := maker{rnd: rnd}
		p := m.program()
		test := ast.Names(p, api.NodeTest)[0]
		want := run(t, p, test, 500)
		rnd.Shuffle(len(p.Kids), func(i, j int) { p.Kids[i], p.Kids[j] = p.Kids[j], p.Kids[i] })
		if got := run(t, p, test, 500); !sameResult(got, want) {
			t.Errorf("%s: %v, not %v", short(ast.Print(p)), got, want)
		}
	}
}
