package engine

import (
	"math"
	"slices"
	"strings"
	"testing"

	"cupel/api"
	"cupel/ast"
	"cupel/graph"
	"cupel/mutate"
)

// Promise 18.1: the digest by hand of its parts.
func TestKey(t *testing.T) {
	const none = "\x00\x00\x00\x00\x00\x00\x00\x00"
	p := parsed(t, "func other() int { return 1; } test t { f(); } var w int = 1; func f() int { return 258; }")
	f := "\x03\x01\x01\x00\x00\x00f" + none + "\x01" + // a function f with a kid:
		"\x06\x00\x00\x00\x00\x00" + none + "\x01" + // a block,
		"\x0b\x00\x00\x00\x00\x00" + none + "\x01" + // a return,
		"\x14\x00\x00\x00\x00\x00\x02\x01\x00\x00\x00\x00\x00\x00\x00" // 258
	u := "\x04\x00\x01\x00\x00\x00t" + none + "\x01" + // a test t with a kid:
		"\x06\x00\x00\x00\x00\x00" + none + "\x01" + // a block,
		"\x0d\x00\x00\x00\x00\x00" + none + "\x01" + // a statement that is a call:
		"\x18\x00\x01\x00\x00\x00f" + none + "\x00" // of f
	closure := digest('L', "f", digest('N', f), "t", digest('N', u))
	for fuel, bytes := range map[int]string{
		0:           "\x00\x00\x00\x00",
		1:           "\x01\x00\x00\x00",
		258:         "\x02\x01\x00\x00",
		api.Fuel:    "\xd0\x07\x00\x00",
		api.MaxFuel: "\x20\x4e\x00\x00",
		1<<32 - 1:   "\xff\xff\xff\xff",
		-1:          "\xff\xff\xff\xff", // as many of its lowest bytes
		1<<32 + 258: "\x02\x01\x00\x00",
	} {
		same(t, "by hand", Key(p, "t", fuel), digest('K', closure, "t", bytes))
	}
	same(t, "its length", len(Key(p, "t", api.Fuel)), api.HashBytes)
	same(t, "with types", Key(checked(t, ast.Print(p)), "t", api.Fuel), Key(p, "t", api.Fuel))
	same(t, "of another one", Key(p, "f", 5), digest('K', graph.Hash(p, "f"), "f", "\x05\x00\x00\x00"))
}

// Promise 18.1: where there is no such test the closure is that of nothing; the name and the fuel still count.
func TestKeyOfNoTest(t *testing.T) {
	p := parsed(t, "func f(a int) int { return a; } test t { f(1); }")
	for _, name := range []string{"", "a", "x", "T", "t ", strings.Repeat("t", 100000)} {
		same(t, "no such test", Key(p, name, 7), digest('K', digest('L'), name, "\x07\x00\x00\x00"))
		same(t, "no program", Key(api.Node{}, name, 7), Key(p, name, 7))
	}
}

const someText = "var v int = 5; var w float = -1.5; func f(a int) bool { x := g(a); if x < v { return a == 1; } else { w = 0.5; } return !(true && a > 2); } func g(a int) int { return a * 3 % 2; } func h() int { return 7 + v; } test t { assert f(2); } test u { h(); } test s { skip; }"

// Promise 18.1: the key is another one for another name, other fuel, and another program that the test comes to.
func TestKeyIsAnotherOne(t *testing.T) {
	p := parsed(t, someText)
	seen := map[string]int{}
	count := 0
	see := func(key string) {
		seen[key]++
		count++
	}
	for _, name := range []string{"t", "u", "s", "f", "g", "h", "v", "w", "none", ""} {
		for _, fuel := range []int{0, 1, 255, 256, api.Fuel - 1, api.Fuel, api.Fuel + 1, 1 << 16, 1 << 24, api.MaxFuel, -1} {
			see(Key(p, name, fuel))
		}
	}
	for _, q := range changedBy(p, "t", "f", "g", "v", "w") {
		see(Key(q, "t", api.Fuel))
	}
	same(t, "keys that are unlike", len(seen), count)
	if count < 150 {
		t.Errorf("too few: %d", count)
	}
	a, b := parsed(t, "test t { }"), parsed(t, "test u { }")
	same(t, "tests of other names alike", Key(a, "t", api.Fuel) == Key(b, "u", api.Fuel), false)
}

// Promise 18.1: the key is the same one where only declarations are turned that the test does not come to, or all stand elsewhere.
func TestKeyStays(t *testing.T) {
	p := parsed(t, someText)
	t1, u1 := Key(p, "t", api.Fuel), Key(p, "u", api.Fuel)
	others := changedBy(p, "h", "u", "s")
	for _, q := range others {
		same(t, short(ast.Print(q))+": of t", Key(q, "t", api.Fuel), t1)
	}
	more := changedBy(p, "f", "g", "w", "t", "s")
	for _, q := range more {
		same(t, short(ast.Print(q))+": of u", Key(q, "u", api.Fuel), u1)
	}
	if len(others) < 8 || len(more) < 20 {
		t.Errorf("too few: %d, %d", len(others), len(more))
	}
	back := ast.Clone(p)
	slices.Reverse(back.Kids)
	same(t, "in another order", Key(back, "t", api.Fuel), t1)
	longer := parsed(t, "test first { f(1); h(); } func k() float { return w; } "+someText+" var last int = 1;")
	same(t, "with others", Key(longer, "t", api.Fuel), t1)
	same(t, "with types", Key(checked(t, someText), "t", api.Fuel), t1)
}

// changedBy is programs of which one declaration with one of some names is otherwise.
func changedBy(p api.Node, names ...string) []api.Node {
	var list []api.Node
	for i, d := range p.Kids {
		if !slices.Contains(names, d.S) {
			continue
		}
		for place, n := range ast.All(d) {
			for _, by := range append(mutate.Turns(n), mores(n)...) {
				q := ast.Clone(p)
				q.Kids[i] = ast.Replace(d, place, by)
				list = append(list, q)
			}
		}
	}
	return list
}

// mores is what else a node may be made.
func mores(n api.Node) []api.Node {
	switch n.Kind {
	case api.NodeBlock:
		n.Kids = append([]api.Node{tree(api.NodeSkip)}, n.Kids...)
		return []api.Node{n}
	case api.NodeInt, api.NodeFloat:
		n.N, n.S = n.N+5, ""
		return []api.Node{n}
	case api.NodeGlobal, api.NodeParam:
		n.T++
		return []api.Node{n}
	}
	return nil
}

// Rules R1, R2 and R4: of any program, name and fuel, the same when asked twice, and what is handed in stays.
func TestKeyOfAnything(t *testing.T) {
	deep := truth(1)
	for range 1<<16 - 100 {
		deep = named(api.NodeUnary, "!", deep)
	}
	for _, p := range []api.Node{{}, parsed(t, someText), block(), {Kind: -1, T: 300, N: math.MinInt64}, program(program(program())),
		program(named(api.NodeTest, "t", block(tree(api.NodeAssert, deep)))), parsed(t, "test t { } test t { skip; }")} {
		was := ast.Clone(p)
		for _, name := range []string{"", "t", "f", "\x00", "none"} {
			for _, fuel := range []int{0, -1, math.MinInt, math.MaxInt} {
				key := Key(p, name, fuel)
				same(t, "its length", len(key), api.HashBytes)
				same(t, "asked twice", Key(p, name, fuel), key)
			}
		}
		if !ast.Same(p, was) {
			t.Errorf("what was handed in does not stay")
		}
	}
}
