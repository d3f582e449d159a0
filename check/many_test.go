package check

import (
	"strconv"
	"strings"
	"testing"

	"cupel/api"
	"cupel/ast"
	"cupel/parse"
)

func numbered(s string, n int) string { return s + strconv.Itoa(n) }

// Promise 12.1: no text has more declarations than there may be; the one that is too many is told.
func TestManyDeclarations(t *testing.T) {
	var n api.Node
	n.Kind = api.NodeProgram
	for i := range 16 {
		n.Kids = append(n.Kids, global(numbered("g", i), 1, whole(1)))
	}
	for i := range 16 {
		n.Kids = append(n.Kids, testOf(numbered("t", i), block()), function(numbered("f", i), 1, block(node(api.NodeReturn, whole(1)))))
	}
	accepts(t, "as many as there may be", n)
	same(t, "whether a text has it", hasText(n), true)
	more := func(d api.Node, place int) api.Node {
		m := ast.Clone(n)
		m.Kids = append(m.Kids[:place], append([]api.Node{d}, m.Kids[place:]...)...)
		return m
	}
	noText(t, "another global", more(global("g", 1, whole(1)), 48), 48)
	noText(t, "another global ahead", more(global("g", 1, whole(1)), 0), 16)
	noText(t, "another test", more(testOf("t", block()), 48), 48)
	noText(t, "another test ahead", more(testOf("t", block()), 0), 48)
	noText(t, "another function", more(function("f", 1, block(node(api.NodeReturn, whole(1)))), 48), 48)
	noText(t, "another function that has no return", more(function("f", 1, block()), 48), 48)
	rejects(t, "another test that is rejected", more(testOf("t", block(node(api.NodeReturn, yes()))), 48), 48, api.ErrReturn)
	rejects(t, "another test of one name", more(testOf("t1", block()), 48), 48, api.ErrTwice)
	rejects(t, "another global that is rejected", more(global("g", 2, whole(1)), 48), 48, api.ErrType)
}

// Promise 12.1: no text has more parameters, arguments or statements of one block than there may be.
func TestManyKids(t *testing.T) {
	for count := 5; count < 9; count++ {
		var params, args []api.Node
		for i := range count {
			params = append(params, param(numbered("a", i), 1))
			args = append(args, whole(1))
		}
		f := function("f", 1, append(params, block(node(api.NodeReturn, whole(1))))...)
		caller := testOf("t", block(node(api.NodeDo, call("f", args...))))
		if count <= api.MaxParams {
			accepts(t, "parameters", program(f, caller))
			continue
		}
		noText(t, "parameters", program(f), 0)
		noText(t, "arguments", program(caller, f), 0)
		rejects(t, "arguments that are too many for the function, too", program(caller, function("f", 1, param("a", 1), block(node(api.NodeReturn, whole(1))))), 0, api.ErrCount)
	}
	for count := 30; count < 36; count++ {
		b := block()
		for range count {
			b.Kids = append(b.Kids, skip())
		}
		within := program(testOf("s", block()), testOf("t", block(node(api.NodeFor, yes(), b))))
		if count <= 32 {
			accepts(t, "statements", program(testOf("t", b)))
			accepts(t, "statements of a loop", within)
			continue
		}
		noText(t, "statements", program(testOf("t", b)), 0)
		noText(t, "statements of a loop", within, 1)
		b.Kids = append(b.Kids, named(api.NodeAssign, "y", yes()))
		rejects(t, "statements of which the last one is rejected", program(testOf("t", b)), 0, api.ErrKnown)
	}
}

// sum is an expression of so many nodes, an odd number, as flat as it may be.
func sum(nodes int) api.Node {
	if nodes == 1 {
		return whole(1)
	}
	half := (nodes - 1) / 2
	if half%2 == 0 {
		half++
	}
	return bin(sum(half), "+", sum(nodes-1-half))
}

// Promise 12.1: no text has more nodes than there may be; the declaration with which they are too many is told.
func TestManyNodes(t *testing.T) {
	filled := func(s string, nodes int) api.Node { // a test of so many nodes
		first := 1 - (nodes-3)%2 // an odd count is left for the sum
		b := block()
		for range first {
			b.Kids = append(b.Kids, skip())
		}
		b.Kids = append(b.Kids, named(api.NodeDefine, "x", sum(nodes-3-first)))
		return testOf(s, b)
	}
	for _, nodes := range []int{10, 11, 1998, 1999} {
		n := program(filled("t", nodes))
		same(t, "nodes", ast.Count(n), nodes+1)
		accepts(t, "a test of nodes", n)
	}
	for _, nodes := range []int{2000, 2001, 2500} {
		rejects(t, "a test of too many nodes", program(filled("t", nodes)), 0, api.ErrTree)
		rejects(t, "one behind another", program(testOf("s", block()), filled("t", nodes-2)), 1, api.ErrTree)
		bad := filled("t", nodes)
		bad.Kids[0].Kids = append([]api.Node{node(api.NodeAssert, whole(1))}, bad.Kids[0].Kids...)
		rejects(t, "one that is rejected ahead of that", program(bad), 0, api.ErrType)
	}
	rejects(t, "a small one behind it", program(filled("t", 1997), testOf("s", block(skip()))), 1, api.ErrTree)
	rejects(t, "two of them", program(filled("a", 1000), filled("b", 998), testOf("c", block()), testOf("d", block())), 2, api.ErrTree)
	accepts(t, "as many as there may be", program(filled("a", 1000), filled("b", 997), testOf("c", block())))
}

// Promises 12.1 and 15.2: a mutant of a program that may be may be, though its text were longer than a text may be, or had more brackets within one another.
func TestLongAndDeepTrees(t *testing.T) {
	s := "test t { assert true; } //"
	n := treeOf(t, s+strings.Repeat(" ", api.MaxSource-len(s)))
	accepts(t, "false in the place of true", ast.Replace(n, 4, api.Node{Kind: api.NodeBool}))
	var names []string
	for i := range 32 {
		names = append(names, "test "+strings.Repeat("t", 14)+strconv.Itoa(10+i)+" { a:=0-0-0-0; b:=0-0-0-0; c:=0-0-0-0; d:=0-0-0-0; e:=0-0-0-0; f:=0-0-0-0; g:=0-0-0-0; }")
	}
	long := treeOf(t, strings.Join(names, ""))
	for place, spot := range ast.All(long) {
		if spot.Kind == api.NodeInt {
			long = ast.Replace(long, place, whole(1<<62))
		}
	}
	if _, _, e := parse.Program(ast.Print(long)); e != api.ErrMany {
		t.Errorf("the text is not too long: %d", e)
	}
	accepts(t, "a tree whose text were too long", long)

	deep := treeOf(t, "test t { assert "+strings.Repeat("(true || ", 39)+"true && true"+strings.Repeat(")", 39)+"; }")
	for place, spot := range ast.All(deep) {
		if spot.S == "&&" {
			spot.S = "||"
			accepts(t, "a tree whose text had a bracket too many", ast.Replace(deep, place, spot))
		}
	}
}

// Rule R1: trees as deep as there may be parts within one another, of all kinds: a call ends.
func TestDeepestTrees(t *testing.T) {
	const levels = 1 << 16
	for kind := range 30 {
		for _, first := range []bool{true, false} {
			n := node(kind)
			for range levels {
				n = api.Node{Kind: kind, T: 1, S: "x", Kids: []api.Node{n}}
				if !first {
					n.Kids = []api.Node{yes(), n.Kids[0]}
				}
			}
			for _, p := range []api.Node{n, program(n), inTest(n), inTest(node(api.NodeAssert, n)), inTest(node(api.NodeIf, yes(), n))} {
				if _, place, e := Program(p); place != 0 || e == api.OK {
					t.Errorf("kind %d: place %d, error %d", kind, place, e)
				}
			}
		}
	}
	n, m, l := yes(), block(), block()
	for range levels / 2 {
		n = named(api.NodeUnary, "!", n)
		m = block(node(api.NodeIf, yes(), m, block()))
		l = block(node(api.NodeFor, yes(), l))
	}
	rejects(t, "signs ahead of one another", inTest(node(api.NodeAssert, n)), 0, api.ErrTree)
	rejects(t, "blocks within one another", program(testOf("t", m)), 0, api.ErrTree)
	rejects(t, "loops within one another", program(testOf("t", l)), 0, api.ErrTree)
	rejects(t, "a sign that does not fit at the deepest place", inTest(node(api.NodeAssert, ast.Replace(n, levels/2, whole(1)))), 0, api.ErrType)
}

// Rule R1: trees as wide as a program's bytes let them be: a call ends.
func TestWidestTrees(t *testing.T) {
	const count = 100000
	var tests, lines []api.Node
	for i := range count {
		tests = append(tests, testOf(numbered("t", i), block()))
		lines = append(lines, named(api.NodeDefine, numbered("x", i), whole(1)))
	}
	rejects(t, "tests", program(tests...), 32, api.ErrTree)
	rejects(t, "lines", inTest(lines...), 0, api.ErrTree)
	lines[900].S = "x7"
	rejects(t, "lines with one name twice", inTest(lines[:1100]...), 0, api.ErrTwice)
}
