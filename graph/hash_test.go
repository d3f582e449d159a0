package graph

import (
	"crypto/sha3"
	"encoding/binary"
	"slices"
	"strings"
	"testing"

	"cupel/api"
	"cupel/ast"
	"cupel/mutate"
)

// digest is that of parts for a purpose, by the library.
func digest(purpose byte, parts ...string) string {
	var b []byte
	for _, s := range parts {
		b = binary.LittleEndian.AppendUint64(append(b, s...), uint64(len(s)))
	}
	d := sha3.Sum256(append(b, purpose))
	return string(d[:])
}

// Promise 16.1: the digest by hand.
func TestHash(t *testing.T) {
	const none = "\x00\x00\x00\x00\x00\x00\x00\x00"
	p := treeOf(t, "func f() int { return v; } func other() int { return 1; } var v int = 258; test t { f(); }")
	f := "\x03\x01\x01\x00\x00\x00f" + none + "\x01" + // a function f with a kid:
		"\x06\x00\x00\x00\x00\x00" + none + "\x01" + // a block,
		"\x0b\x00\x00\x00\x00\x00" + none + "\x01" + // a return,
		"\x17\x00\x01\x00\x00\x00v" + none + "\x00" // v
	v := "\x02\x01\x01\x00\x00\x00v" + none + "\x01" + // a global v with a kid:
		"\x14\x00\x00\x00\x00\x00\x02\x01\x00\x00\x00\x00\x00\x00\x00" // 258
	u := "\x04\x00\x01\x00\x00\x00t" + none + "\x01" + // a test t with a kid:
		"\x06\x00\x00\x00\x00\x00" + none + "\x01" + // a block,
		"\x0d\x00\x00\x00\x00\x00" + none + "\x01" + // a statement that is a call:
		"\x18\x00\x01\x00\x00\x00f" + none + "\x00" // of f
	same(t, "of v", Hash(p, "v"), digest('L', "v", digest('N', v)))
	same(t, "of f", Hash(p, "f"), digest('L', "f", digest('N', f), "v", digest('N', v)))
	same(t, "of t", Hash(p, "t"), digest('L', "f", digest('N', f), "t", digest('N', u), "v", digest('N', v)))
	same(t, "with types", Hash(typesOf(t, p), "t"), Hash(p, "t"))
	same(t, "its length", len(Hash(p, "t")), api.HashBytes)
}

// Promise 16.1: where there is no such declaration the closure is nothing: the digest is that of no parts.
func TestHashOfNoDeclaration(t *testing.T) {
	p := treeOf(t, "var v int = 1; func f(a int) int { return a + v; } test t { f(1); }")
	for _, name := range []string{"", "a", "x", "F", "t "} {
		same(t, name, Hash(p, name), digest('L'))
	}
	same(t, "of no program", Hash(api.Node{}, "t"), digest('L'))
	same(t, "of the function alone", Hash(p.Kids[1], "f"), digest('L'))
}

const someText = "var v int = 5; var w float = -1.5; func f(a int) bool { x := g(a); if x < v { return a == 1; } else { w = 0.5; } return !(true && a > 2); } func g(a int) int { return a * 3 % 2; } func h() int { return 7 + v; } test t { assert f(2); } test u { h(); } test s { skip; }"

// Promise 16.1: the digest stays where other declarations alone are changed, and wherever the declarations stand.
func TestHashStays(t *testing.T) {
	p := treeOf(t, someText)
	t1, u1 := Hash(p, "t"), Hash(p, "u")
	for _, q := range changedBy(p, "h", "u", "s") {
		same(t, short(ast.Print(q))+": of t", Hash(q, "t"), t1)
	}
	for _, q := range changedBy(p, "f", "g", "w", "t", "s") {
		same(t, short(ast.Print(q))+": of u", Hash(q, "u"), u1)
	}
	back := ast.Clone(p)
	slices.Reverse(back.Kids)
	for _, d := range p.Kids {
		same(t, "of "+d.S+" in another order", Hash(back, d.S), Hash(p, d.S))
		same(t, "of "+d.S+" with types", Hash(typesOf(t, p), d.S), Hash(p, d.S))
	}
	more := treeOf(t, "test first { f(1); h(); } func k() float { return w; } "+someText+" var last int = 1;")
	same(t, "of t with others", Hash(more, "t"), t1)
	spaced := treeOf(t, strings.ReplaceAll(someText, " ", "  // a note\n"))
	same(t, "of t with notes", Hash(spaced, "t"), t1)
}

// Promise 16.1: the digest is another one where any declaration of the closure is changed, wherever it stands.
func TestHashIsAnotherOne(t *testing.T) {
	p := treeOf(t, someText)
	seen := map[string]int{Hash(p, "t"): 1}
	count := 1
	for _, q := range changedBy(p, "t", "f", "g", "v", "w") {
		seen[Hash(q, "t")]++
		count++
	}
	same(t, "digests that are unlike", len(seen), count)
	if count < 40 {
		t.Errorf("too few: %d", count)
	}
	for _, q := range changedBy(p, "v") {
		for _, name := range []string{"v", "f", "h", "t", "u"} {
			same(t, "of "+name+" stays", Hash(q, name) == Hash(p, name), false)
		}
		for _, name := range []string{"w", "g", "s"} {
			same(t, "of "+name+" stays", Hash(q, name) == Hash(p, name), true)
		}
	}
}

// changedBy is programs of which one declaration with one of some names is otherwise: all turns of its nodes, and with one node more.
func changedBy(p api.Node, names ...string) []api.Node {
	var list []api.Node
	for i, d := range p.Kids {
		if !slices.Contains(names, d.S) {
			continue
		}
		for place, n := range ast.All(d) {
			for _, by := range append(mutate.Turns(n), mores(n)...) {
				q := ast.Clone(p)
				q.Kids[i] = ast.Replace(d, place, by)
				list = append(list, q)
			}
		}
	}
	return list
}

// mores is what else a node may be made.
func mores(n api.Node) []api.Node {
	switch n.Kind {
	case api.NodeBlock:
		n.Kids = append([]api.Node{tree(api.NodeSkip)}, n.Kids...)
		return []api.Node{n}
	case api.NodeInt, api.NodeFloat:
		n.N, n.S = n.N+5, ""
		return []api.Node{n}
	case api.NodeGlobal, api.NodeParam:
		n.T++
		return []api.Node{n}
	}
	return nil
}

// Promise 16.1: another name is another digest, of one that uses nothing, too.
func TestHashOfNames(t *testing.T) {
	seen := map[string]int{}
	for _, s := range []string{
		"test t { }", "test t { skip; }", "func t() int { return 1; }", "func t(a int) int { return 1; }", "func t(b int) int { return 1; }",
		"var t int = 1; test u { }", "var t int = 2;", "var t float = 1.0;", "var t bool = true;",
		"test t { u(); } func u() int { return 1; }", "test t { v(); } func v() int { return 1; }", "test t { u(); } func u() int { return 2; }",
		"test t { w = 1; } var w int = 1;", "test t { w = 1; } var w int = 2;", "test t { w := 1; } var u int = 2;", "test t { w := 1; w = 1; }",
		"test t { u(); } func u() int { return v(); } func v() int { return 1; }", "test t { u(); } func u() int { return v(); } func v() int { return v(); }",
	} {
		seen[Hash(treeOf(t, s), "t")]++
	}
	same(t, "digests that are unlike", len(seen), 18)
	a, b := treeOf(t, "test t { }"), treeOf(t, "test u { }")
	same(t, "of other names alike", Hash(a, "t") == Hash(b, "u"), false)
}

// Promise 16.1: of two that use each other the closures are the same, and so are the digests.
func TestHashOfOneClosure(t *testing.T) {
	p := treeOf(t, "func a() int { return b(); } func b() int { return a(); } func c() int { return b(); }")
	same(t, "of a and b", Hash(p, "a"), Hash(p, "b"))
	same(t, "of a and c alike", Hash(p, "a") == Hash(p, "c"), false)
}
