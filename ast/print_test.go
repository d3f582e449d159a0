package ast

import (
	"math"
	"math/rand"
	"strings"
	"testing"

	"cupel/api"
	"cupel/lex"
)

func prints(t *testing.T, n api.Node, want string) {
	t.Helper()
	if got := Print(n); got != want {
		t.Errorf("%q, not %q", got, want)
	}
}

// minus is a literal with a point whose sign is set.
func minus(s string) api.Node {
	n := Float(s)
	n.N = int64(math.Float64bits(-math.Float64frombits(uint64(n.N))))
	return n
}

// Promise 10.1: literals and names.
func TestPrintLiterals(t *testing.T) {
	prints(t, whole(0), "0")
	prints(t, whole(1), "1")
	prints(t, whole(math.MaxInt64), "9223372036854775807")
	prints(t, Float("007.500"), "7.5")
	prints(t, Float("0.0"), "0.0")
	prints(t, Float("12345678901234.5"), "12345678901234.5")
	prints(t, yes(), "true")
	prints(t, no(), "false")
	prints(t, name("abc_9"), "abc_9")
}

// Promise 10.1: signs, calls and conversions, within one another too.
func TestPrintExpressions(t *testing.T) {
	a, b := name("a"), name("b")
	for _, sign := range strings.Fields("+ - * / % < <= > >= == != && ||") {
		prints(t, named(api.NodeBin, sign, a, b), "(a "+sign+" b)")
	}
	less := named(api.NodeBin, "-", a, b)
	prints(t, named(api.NodeBin, "-", less, whole(1)), "((a - b) - 1)")
	prints(t, named(api.NodeBin, "-", whole(1), less), "(1 - (a - b))")
	prints(t, named(api.NodeBin, "*", less, named(api.NodeBin, "/", less, b)), "((a - b) * ((a - b) / b))")
	low := named(api.NodeUnary, "-", a)
	prints(t, low, "-a")
	prints(t, named(api.NodeUnary, "!", yes()), "!true")
	prints(t, named(api.NodeUnary, "-", low), "--a")
	prints(t, named(api.NodeUnary, "!", named(api.NodeUnary, "!", a)), "!!a")
	prints(t, named(api.NodeUnary, "-", less), "-(a - b)")
	prints(t, named(api.NodeBin, "-", a, low), "(a - -a)")
	prints(t, named(api.NodeUnary, "-", whole(5)), "-5")
	prints(t, named(api.NodeCall, "f"), "f()")
	prints(t, named(api.NodeCall, "f", a), "f(a)")
	prints(t, named(api.NodeCall, "f", a, whole(2), Float("3.0")), "f(a, 2, 3.0)")
	prints(t, named(api.NodeCall, "f", named(api.NodeCall, "g"), named(api.NodeCall, "h", less, low)), "f(g(), h((a - b), -a))")
	prints(t, typed(api.NodeConv, api.TypeInt, "", a), "int(a)")
	prints(t, typed(api.NodeConv, api.TypeFloat, "", less), "float((a - b))")
	prints(t, typed(api.NodeConv, api.TypeInt, "", typed(api.NodeConv, api.TypeFloat, "", whole(1))), "int(float(1))")
}

// Promise 10.1: each statement; ifs with one block and with two.
func TestPrintStatements(t *testing.T) {
	a, one := name("a"), whole(1)
	empty, some := node(api.NodeBlock), node(api.NodeBlock, node(api.NodeSkip))
	prints(t, named(api.NodeDefine, "x", one), "x := 1;")
	prints(t, named(api.NodeAssign, "x", named(api.NodeBin, "+", a, one)), "x = (a + 1);")
	prints(t, node(api.NodeIf, a, empty), "if a { }")
	prints(t, node(api.NodeIf, a, some), "if a { skip; }")
	prints(t, node(api.NodeIf, a, empty, empty), "if a { } else { }")
	prints(t, node(api.NodeIf, a, some, empty), "if a { skip; } else { }")
	prints(t, node(api.NodeIf, a, empty, some), "if a { } else { skip; }")
	prints(t, node(api.NodeIf, a, empty, node(api.NodeBlock, node(api.NodeIf, one, some))), "if a { } else { if 1 { skip; } }")
	prints(t, node(api.NodeFor, a, empty), "for a { }")
	prints(t, node(api.NodeFor, named(api.NodeBin, "<", a, one), some), "for (a < 1) { skip; }")
	prints(t, node(api.NodeReturn, one), "return 1;")
	prints(t, node(api.NodeAssert, yes()), "assert true;")
	prints(t, node(api.NodeDo, named(api.NodeCall, "f", a, one)), "f(a, 1);")
	prints(t, node(api.NodeSkip), "skip;")
}

// Promise 10.1: blocks without statements, with one, with some, and with blocks in them.
func TestPrintBlocks(t *testing.T) {
	skip := node(api.NodeSkip)
	prints(t, node(api.NodeBlock), "{ }")
	prints(t, api.Node{Kind: api.NodeBlock, Kids: []api.Node{}}, "{ }")
	prints(t, node(api.NodeBlock, skip), "{ skip; }")
	prints(t, node(api.NodeBlock, skip, node(api.NodeReturn, whole(1)), skip), "{ skip; return 1; skip; }")
	prints(t, node(api.NodeBlock, node(api.NodeFor, yes(), node(api.NodeBlock, skip)), skip), "{ for true { skip; } skip; }")
	prints(t, node(api.NodeBlock, node(api.NodeBlock), node(api.NodeBlock, skip)), "{ { } { skip; } }")
}

// Promise 10.1: globals of each type, with numbers below 0 and both noughts.
func TestPrintGlobals(t *testing.T) {
	cases := []struct {
		kind    int
		literal api.Node
		want    string
	}{
		{api.TypeInt, whole(0), "var x int = 0;"},
		{api.TypeInt, whole(12), "var x int = 12;"},
		{api.TypeInt, whole(-1), "var x int = -1;"},
		{api.TypeInt, whole(math.MaxInt64), "var x int = 9223372036854775807;"},
		{api.TypeInt, whole(-math.MaxInt64), "var x int = -9223372036854775807;"},
		{api.TypeInt, whole(math.MinInt64), "var x int = -9223372036854775808;"},
		{api.TypeFloat, Float("0.0"), "var x float = 0.0;"},
		{api.TypeFloat, minus("0.0"), "var x float = -0.0;"},
		{api.TypeFloat, Float("1.50"), "var x float = 1.5;"},
		{api.TypeFloat, minus("1.50"), "var x float = -1.5;"},
		{api.TypeFloat, minus("12345678901234.5"), "var x float = -12345678901234.5;"},
		{api.TypeBool, yes(), "var x bool = true;"},
		{api.TypeBool, no(), "var x bool = false;"},
	}
	for _, c := range cases {
		prints(t, typed(api.NodeGlobal, c.kind, "x", c.literal), c.want)
	}
}

// Promise 10.1: functions with no parameter, with one, with some; tests.
func TestPrintFunctions(t *testing.T) {
	a, b, c := typed(api.NodeParam, api.TypeInt, "a"), typed(api.NodeParam, api.TypeFloat, "b"), typed(api.NodeParam, api.TypeBool, "c")
	block := node(api.NodeBlock, node(api.NodeReturn, name("a")))
	prints(t, typed(api.NodeFunc, api.TypeInt, "f", node(api.NodeBlock)), "func f() int { }")
	prints(t, typed(api.NodeFunc, api.TypeInt, "f", a, block), "func f(a int) int { return a; }")
	prints(t, typed(api.NodeFunc, api.TypeFloat, "f", a, b, block), "func f(a int, b float) float { return a; }")
	prints(t, typed(api.NodeFunc, api.TypeBool, "f", a, b, c, block), "func f(a int, b float, c bool) bool { return a; }")
	prints(t, c, "c bool")
	prints(t, named(api.NodeTest, "t", node(api.NodeBlock)), "test t { }")
	prints(t, named(api.NodeTest, "t", node(api.NodeBlock, node(api.NodeAssert, yes()))), "test t { assert true; }")
}

// Promise 10.1: a program's declarations, each with a line feed behind it.
func TestPrintPrograms(t *testing.T) {
	prints(t, node(api.NodeProgram), "")
	prints(t, node(api.NodeProgram, named(api.NodeTest, "t", node(api.NodeBlock))), "test t { }\n")
	prints(t, sample(), sampleText)
}

// Promise 10.1: the types of expressions are not in the text, nor hangs it on them.
func TestPrintWithoutTypes(t *testing.T) {
	prints(t, Bare(sample()), sampleText)
}

// Promise 10.4, as far as this layer goes: the text is cut into the words that it was made of.
func TestPrintIsWords(t *testing.T) {
	words, _, e := lex.Tokens(sampleText)
	var got []string
	for _, w := range words {
		got = append(got, w.S)
	}
	want := "var g int = - 3 ; func f ( a int , b bool ) int { x := - ( a + 1 ) ; g = 7 ; if b { skip ; } else { } for false { skip ; } return x ; } " +
		"test t { f ( int ( 0.5 ) , true ) ; assert true ; } "
	if e != api.OK || strings.Join(got, " ") != want {
		t.Errorf("%d: %q", e, got)
	}
}

// Promise 10.1: of nodes that are not as they should be any text, but no call fails.
func TestPrintOfOtherNodes(t *testing.T) {
	kids := []api.Node{{}, name("a"), node(api.NodeBlock), typed(api.NodeParam, 9, "p"), node(api.NodeProgram, node(api.NodeProgram)), {Kind: -5, S: "?", T: -5}}
	for kind := -3; kind < 40; kind++ {
		for count := range 6 {
			for turn := range kids {
				n := api.Node{Kind: kind, T: kind, S: "s", N: int64(-kind)}
				for i := range count {
					n.Kids = append(n.Kids, kids[(turn+i)%len(kids)])
				}
				checkPrint(t, n)
			}
		}
	}
	for _, kind := range []int{math.MinInt, math.MaxInt, 256, -1 << 40} {
		checkPrint(t, node(kind, node(kind), whole(1)))
	}
	rnd := rand.New(rand.NewSource(4))
	for range 2000 {
		checkPrint(t, anyTree(rnd, 6))
	}
}

// checkPrint tells that a node is printed to one text, and stays as it was.
func checkPrint(t *testing.T, n api.Node) {
	t.Helper()
	was := copied(n)
	if Print(n) != Print(was) || !equal(n, was) {
		t.Errorf("%+v is printed to two texts, or is another one", was)
	}
}

// Rule R1: kids that are missing, each by what there is of the node.
func TestPrintOfMissingKids(t *testing.T) {
	prints(t, api.Node{}, "")
	prints(t, named(99, "s", name("a")), "")
	prints(t, named(15, "s", name("a")), "")
	prints(t, typed(api.NodeFunc, 0, "f"), "func f()  ")
	prints(t, node(api.NodeIf), "if  ")
	prints(t, named(api.NodeBin, "+", name("a")), "(a + )")
	prints(t, named(api.NodeUnary, "-"), "-")
	prints(t, node(api.NodeReturn), "return ;")
}

// Promise 10.1 at the edge of the document's limits: a text as deep and as wide as it comes.
func TestPrintOfGreatTrees(t *testing.T) {
	n := name("a")
	for range 1 << 16 {
		n = named(api.NodeUnary, "-", n)
	}
	prints(t, n, strings.Repeat("-", 1<<16)+"a")
	block := node(api.NodeBlock)
	for range 50000 {
		block.Kids = append(block.Kids, node(api.NodeSkip))
	}
	prints(t, block, "{"+strings.Repeat(" skip;", 50000)+" }")
}
