package mutate

import (
	"crypto/sha3"
	"encoding/binary"
	"math"
	"testing"

	"cupel/api"
	"cupel/ast"
)

// digest is that of parts for a purpose, by the library.
func digest(purpose byte, parts ...string) string {
	var b []byte
	for _, s := range parts {
		b = binary.LittleEndian.AppendUint64(append(b, s...), uint64(len(s)))
	}
	d := sha3.Sum256(append(b, purpose))
	return string(d[:])
}

// byHand is a mutant's digest: of the function's name, its hash, and the place and the turn in four bytes each.
func byHand(name string, f api.Node, node, turn int) string {
	place := binary.LittleEndian.AppendUint32(nil, uint32(node))
	return digest('U', name, ast.Hash(f), string(place), string(binary.LittleEndian.AppendUint32(nil, uint32(turn))))
}

// Promise 15.1: the digest by hand.
func TestID(t *testing.T) {
	p := treeOf(t, "test t { f(1); } func f(a int) int { return a + 1; }")
	f := "\x03\x01\x01\x00\x00\x00f\x00\x00\x00\x00\x00\x00\x00\x00\x02" + // a function f with two kids:
		"\x05\x01\x01\x00\x00\x00a\x00\x00\x00\x00\x00\x00\x00\x00\x00" + // its parameter a,
		"\x06\x00\x00\x00\x00\x00\x00\x00\x00\x00\x00\x00\x00\x00\x01" + // a block,
		"\x0b\x00\x00\x00\x00\x00\x00\x00\x00\x00\x00\x00\x00\x00\x01" + // a return,
		"\x1a\x00\x01\x00\x00\x00+\x00\x00\x00\x00\x00\x00\x00\x00\x02" + // + of two:
		"\x17\x00\x01\x00\x00\x00a\x00\x00\x00\x00\x00\x00\x00\x00\x00" + // a,
		"\x14\x00\x00\x00\x00\x00\x01\x00\x00\x00\x00\x00\x00\x00\x00" // 1
	same(t, "the digest", ID(p, api.Mutant{Func: "f", Node: 4}), digest('U', "f", digest('N', f), "\x04\x00\x00\x00", "\x00\x00\x00\x00"))
	same(t, "of the other one", ID(p, api.Mutant{Func: "f", Node: 6}), digest('U', "f", digest('N', f), "\x06\x00\x00\x00", "\x00\x00\x00\x00"))
	same(t, "of another turn", ID(p, api.Mutant{Func: "f", Node: 258, Turn: 1}), digest('U', "f", digest('N', f), "\x02\x01\x00\x00", "\x01\x00\x00\x00"))
}

// Promise 15.1: the digests of all mutants, by the library; all of them unlike, with types and without.
func TestIDOfEach(t *testing.T) {
	p := treeOf(t, someText)
	was, withTypes := ast.Clone(p), typesOf(t, p)
	seen := map[string]int{}
	for m := range All(p) {
		f, _ := ast.Find(p, m.Func)
		got := ID(p, m)
		same(t, "the digest", got, byHand(m.Func, f, m.Node, m.Turn))
		same(t, "its length", len(got), api.HashBytes)
		same(t, "asked again", ID(p, m), got)
		same(t, "with types", ID(withTypes, m), got)
		seen[got]++
	}
	same(t, "digests that are unlike", len(seen), len(List(p)))
	sameTree(t, "what was handed in", p, was)
}

// Promise 15.1: unlike for other functions, places and turns; places and turns that are not there have digests, too, by their lowest bytes.
func TestIDOfOthers(t *testing.T) {
	p := treeOf(t, "func f() int { return 2; } func g() int { return 2; }")
	seen := map[string]int{}
	for _, name := range []string{"f", "g"} {
		for _, node := range []int{0, 1, 2, 3, 4, 255, 256, -1} {
			for _, turn := range []int{0, 1, 2, 3, 256, -1} {
				f, _ := ast.Find(p, name)
				got := ID(p, api.Mutant{Func: name, Node: node, Turn: turn})
				same(t, "the digest", got, byHand(name, f, node, turn))
				seen[got]++
			}
		}
	}
	same(t, "digests that are unlike", len(seen), 2*8*6)
	f := api.Mutant{Func: "f"}
	same(t, "bytes above the lowest four", ID(p, api.Mutant{Func: "f", Node: 1 << 32, Turn: math.MinInt}), ID(p, f))
}

// Promise 15.1: there is no digest of a function that is not there.
func TestIDOfNoFunction(t *testing.T) {
	p := treeOf(t, "var g int = 5; func f(a int) bool { return a < 5; } test t { assert 1 < 2; }")
	for _, name := range []string{"", "g", "t", "a", "F", "f "} {
		same(t, name, ID(p, api.Mutant{Func: name, Node: 4}), "")
	}
	same(t, "nothing", ID(api.Node{}, api.Mutant{}), "")
	same(t, "a function alone", ID(p.Kids[1], api.Mutant{Func: "f", Node: 4}), "")
}

// Promise 15.2: mutants of a function that stays have the digests that they had, whatever is done to other declarations.
func TestIDStays(t *testing.T) {
	f := "func f(a int) bool { x := -a; return x < g; } "
	p := treeOf(t, "var g int = 5; "+f+"func h() int { return 1; } test t { assert f(2); }")
	for _, s := range []string{
		"var g int = 6; " + f, "test t { assert f(3); } " + f + "var g int = 5;", f + "var g int = -5; func h() int { return 2; }",
		"func other(a int) bool { return f(a); } var g int = 5; " + f, "var k bool = true; var g int = 5; func h() float { g = 1; return 1.0; } " + f + " test u { h(); }",
		"var g int = 5; func   f(a int)bool{ x:=-a; // a note\n return(x)<g; }",
	} {
		q := treeOf(t, s)
		same(t, "mutants", told(of(List(q), "f")), told(of(List(p), "f")))
		for _, m := range of(List(p), "f") {
			same(t, "the digest", ID(q, m), ID(p, m))
		}
	}
}

// of is the mutants of a function.
func of(list []api.Mutant, name string) []api.Mutant {
	var own []api.Mutant
	for _, m := range list {
		if m.Func == name {
			own = append(own, m)
		}
	}
	return own
}

// Promise 15.1: if any one node of the function is another one, or its name, all its mutants have other digests.
func TestIDOfAnotherFunction(t *testing.T) {
	p := treeOf(t, "func f(a int) bool { x := -a; return x < 5; }")
	m := List(p)[0]
	seen := map[string]int{ID(p, m): 1}
	more := func(q api.Node) { seen[ID(q, api.Mutant{Func: q.Kids[0].S, Node: m.Node, Turn: m.Turn})]++ }
	count := 1
	for x := range All(p) {
		q, _ := Apply(p, x)
		more(q)
		count++
	}
	for _, s := range []string{
		"func g(a int) bool { x := -a; return x < 5; }", "func f(b int) bool { x := -b; return x < 5; }", "func f(a int) bool { y := -a; return y < 5; }",
		"func f(a int, b int) bool { x := -a; return x < 5; }", "func f(a int) bool { x := -a; skip; return x < 5; }", "func f(a int) bool { x := -a; return 5 < x; }",
	} {
		more(treeOf(t, s))
		count++
	}
	same(t, "digests that are unlike", len(seen), count)
}
