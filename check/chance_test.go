package check

import (
	"math/rand"
	"testing"

	"cupel/api"
	"cupel/ast"
)

// agrees tells that a tree is answered as the chapter's words a second time answer it; it is the error.
func agrees(t *testing.T, p api.Node) api.Errno {
	t.Helper()
	whole, place := hasText(p), 0
	for place < len(p.Kids) && hasText(program(p.Kids[place])) && whyNot(p, place) == api.OK {
		place++
	}
	_, at, e := Program(p)
	_, again, f := Program(p)
	if at != again || e != f {
		t.Errorf("told otherwise when asked twice: %s", short(ast.Print(p)))
	}
	switch {
	case p.Kind != api.NodeProgram || !ast.Same(program(), api.Node{Kind: p.Kind, T: p.T, S: p.S, N: p.N}):
		rejects(t, short(ast.Print(p)), p, 0, api.ErrTree)
	case place == len(p.Kids):
		same(t, "whether some text has all of it", whole, true)
		got := accepts(t, short(ast.Print(p)), p)
		for i, want := range typesOf(p) {
			if n, _ := ast.At(got, i); n.T != want {
				t.Errorf("%s: at %d type %d, not %d", short(ast.Print(p)), i, n.T, want)
			}
		}
	case hasText(program(p.Kids[place])):
		rejects(t, short(ast.Print(p)), p, place, whyNot(p, place))
	default: // what no text has is rejected for it, or for what is told ahead of it
		if at != place || e < api.ErrTwice || e > api.ErrTree {
			t.Errorf("%s: place %d, error %d, not place %d", short(ast.Print(p)), at, e, place)
		}
	}
	if whole && e == api.ErrTree {
		t.Errorf("%s: no tree, though a text has it", short(ast.Print(p)))
	}
	return e
}

// Promise 12.1: programs by chance that are made to be accepted are.
func TestProgramsByChance(t *testing.T) {
	rnd := rand.New(rand.NewSource(1))
	for range 1500 {
		m := maker{rnd: rnd}
		same(t, "a program that fits", agrees(t, m.program()), api.OK)
	}
}

// Promise 12.1: programs by chance with something otherwise are rejected where and why the chapter says, or have the types that it says.
func TestTwistedProgramsByChance(t *testing.T) {
	rnd := rand.New(rand.NewSource(2))
	ends := map[api.Errno]int{}
	for range 4000 {
		m := maker{rnd: rnd}
		n := m.program()
		for left := 1 + rnd.Intn(3); left > 0; {
			if other := twist(rnd, n); !ast.Same(other, n) {
				n = other
				left--
			}
		}
		ends[agrees(t, n)]++
	}
	for _, e := range []api.Errno{api.OK, api.ErrTwice, api.ErrKnown, api.ErrType, api.ErrCount, api.ErrReturn} {
		if ends[e] < 100 {
			t.Errorf("too few of a sort: %v", ends)
		}
	}
}

// Promise 12.1: programs by chance with any part otherwise: what no text has is rejected, and what a text has is not told as what none has.
func TestWreckedProgramsByChance(t *testing.T) {
	rnd := rand.New(rand.NewSource(3))
	ends := map[api.Errno]int{}
	for i := range 6000 {
		m := maker{rnd: rnd}
		n := m.program()
		for range 1 + i%3 {
			n = wreck(rnd, n)
		}
		ends[agrees(t, n)]++
	}
	if ends[api.ErrTree] < 1500 || ends[api.OK] < 300 {
		t.Errorf("too few of a sort: %v", ends)
	}
}

// everything is a program with all kinds of nodes and signs.
const everything = `var g int = -3; var h float = -0.5; var q bool = true;
func f(a int, b float, c bool) int { x := a + 1 - 2 * 3 / 4 % 5; x = x; if c && q || !c { return x; } else if b < 1.5 { return 2; } else { g = -a; return int(b); } }
func k() bool { for g <= 3 { g = g + 1; f(g, float(g), g > 1); skip; } return h >= 0.5 == (h != 2.0); }
test t { assert f(1, 2.5, true) == 3; assert k(); }`

// Promise 12.1: a program with all kinds of nodes, each part of each node changed, one by one.
func TestEachPartOtherwise(t *testing.T) {
	p := treeOf(t, everything)
	accepts(t, "everything", p)
	texts := []string{"", "x", "g", "f", "t", "y", "a", "?", "=", "+", "-", "*", "%", "<", "==", "&&", "||", "!", "int", "1.5", "0.5", "a b", "9"}
	for place, was := range ast.All(p) {
		put := func(change func(n *api.Node)) {
			n := ast.Clone(was)
			change(&n)
			agrees(t, ast.Replace(p, place, n))
		}
		for kind := range 30 {
			put(func(n *api.Node) { n.Kind = kind })
			put(func(n *api.Node) { *n = api.Node{Kind: kind} })
		}
		for kind := -1; kind < 5; kind++ {
			put(func(n *api.Node) { n.T = kind })
		}
		for _, s := range texts {
			put(func(n *api.Node) { n.S = s })
		}
		for _, number := range []int64{0, 1, 2, -1, 1<<63 - 1, -1 << 63, was.N ^ -1<<63, -was.N} {
			put(func(n *api.Node) { n.N = number })
		}
		for i := range was.Kids {
			put(func(n *api.Node) { n.Kids = append(n.Kids[:i], n.Kids[i+1:]...) })
			put(func(n *api.Node) { *n = n.Kids[i] })
		}
		for i := range len(was.Kids) + 1 {
			for _, more := range []api.Node{whole(1), yes(), skip(), block(), param("p", 1), testOf("s", block()), {}, call("k")} {
				put(func(n *api.Node) { n.Kids = append(n.Kids[:i], append([]api.Node{more}, n.Kids[i:]...)...) })
			}
		}
	}
}

// Rule R1: any trees, of any nodes: a call ends, with a tree or with an error and a place.
func TestAnyTree(t *testing.T) {
	rnd := rand.New(rand.NewSource(4))
	var any func(depth int) api.Node
	any = func(depth int) api.Node {
		n := api.Node{Kind: rnd.Intn(30), T: rnd.Intn(5) - 1, S: []string{"", "a", "b", "+", "!", "-", "==", "1.5"}[rnd.Intn(8)], N: int64(rnd.Intn(4) - 1)}
		for range rnd.Intn(4) {
			if depth > 0 {
				n.Kids = append(n.Kids, any(depth-1))
			}
		}
		return n
	}
	for range 20000 {
		n := any(5)
		if rnd.Intn(4) > 0 {
			n = api.Node{Kind: api.NodeProgram, Kids: n.Kids}
		}
		_, place, e := Program(n)
		switch {
		case e == api.OK && (place != 0 || !hasText(n)):
			t.Errorf("a tree that no text has is accepted: %v", n)
		case e != api.OK && (e < api.ErrTwice || e > api.ErrTree || place < 0 || place >= max(len(n.Kids), 1)):
			t.Errorf("place %d, error %d: %v", place, e, n)
		}
	}
}
