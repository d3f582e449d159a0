package check

import (
	"fmt"
	"math"
	"strings"
	"testing"

	"cupel/api"
	"cupel/ast"
	"cupel/lex"
)

// noText tells that a program is rejected at a place, as no text has it.
func noText(t *testing.T, what string, n api.Node, place int) {
	t.Helper()
	rejects(t, what, n, place, api.ErrTree)
	same(t, what+": whether a text has it", hasText(n), false)
}

// statementTree tells that no text has a statement.
func statementTree(t *testing.T, what string, n api.Node) {
	t.Helper()
	noText(t, what, inTest(n), 0)
	noText(t, what, program(testOf("s", block()), testOf("t", block(skip(), node(api.NodeIf, yes(), block(skip(), n)))), function("f", api.TypeInt, block())), 1)
	noText(t, what+" in a function", program(function("f", api.TypeInt, block(n))), 0) // ahead of a return that is missing
}

// expressionTree tells that no text has an expression.
func expressionTree(t *testing.T, what string, n api.Node) {
	t.Helper()
	statementTree(t, what, named(api.NodeDefine, "x", n))
	statementTree(t, what, named(api.NodeDefine, "x", node(api.NodeConv, n)))
	statementTree(t, what, named(api.NodeDefine, "x", bin(whole(1), "==", n)))
	statementTree(t, what, named(api.NodeDefine, "x", named(api.NodeUnary, "!", n)))
	statementTree(t, what, node(api.NodeAssert, n))
	statementTree(t, what, node(api.NodeIf, n, block()))
	statementTree(t, what, node(api.NodeFor, n, block()))
	statementTree(t, what, node(api.NodeDo, call("h", n)))
	noText(t, what, program(function("f", api.TypeFloat, block(node(api.NodeReturn, n)))), 0)
}

// Promise 12.1: kinds that may not stand where they stand.
func TestKindsThatMayNotStand(t *testing.T) {
	for kind := -2; kind < 40; kind++ {
		what := fmt.Sprint("kind ", kind)
		n := api.Node{Kind: kind}
		if kind < api.NodeGlobal || kind > api.NodeTest {
			noText(t, what+" as a declaration", program(n), 0)
			noText(t, what+" behind a declaration", program(testOf("t", block()), n, testOf("t", block())), 1)
			noText(t, what+" with a name as a declaration", program(testOf("t", block()), api.Node{Kind: kind, S: "t"}), 1)
		}
		if kind != api.NodeBlock {
			noText(t, what+" as a test's block", program(testOf("t", n)), 0)
			noText(t, what+" as a function's block", program(function("f", api.TypeInt, n)), 0)
			noText(t, what+" as a block behind a parameter", program(function("f", api.TypeInt, param("a", 1), n)), 0)
			statementTree(t, what+" as an if's block", node(api.NodeIf, yes(), n))
			statementTree(t, what+" as an if's other block", node(api.NodeIf, yes(), block(), n))
			statementTree(t, what+" as a loop's block", node(api.NodeFor, yes(), n))
		}
		if kind != api.NodeParam {
			noText(t, what+" as a parameter", program(function("f", api.TypeInt, n, block(node(api.NodeReturn, whole(1))))), 0)
		}
		if kind < api.NodeDefine || kind > api.NodeSkip {
			statementTree(t, what+" as a statement", n)
		}
		if kind < api.NodeInt || kind > api.NodeConv {
			expressionTree(t, what+" as an expression", n)
		}
		if kind < api.NodeInt || kind > api.NodeBool {
			noText(t, what+" as a global's literal", program(global("g", api.TypeInt, n)), 0)
		}
		if kind != api.NodeCall {
			statementTree(t, what+" as a call", node(api.NodeDo, n))
		}
	}
	noText(t, "a sign ahead in a global", program(global("g", 1, named(api.NodeUnary, "-", whole(1)))), 0)
	noText(t, "a sum in a global", program(global("g", 1, bin(whole(1), "+", whole(1)))), 0)
	noText(t, "a variable in a global", program(global("g", 1, name("g"))), 0)
	noText(t, "a variable that is not known in a global", program(global("g", 1, name("h"))), 0)
	noText(t, "a block that is a statement", program(function("f", 1, block(block(node(api.NodeReturn, whole(1)))))), 0)
	noText(t, "a parameter behind the block", program(function("f", 1, block(node(api.NodeReturn, whole(1))), param("a", 1))), 0)
	noText(t, "a program within a program", program(program()), 0)
	noText(t, "a function within a function", program(testOf("t", block(function("f", 1, block(node(api.NodeReturn, whole(1))))))), 0)
	noText(t, "a literal that is done", inTest(node(api.NodeDo, whole(1))), 0)
	noText(t, "a variable that is done", program(global("g", 1, whole(1)), testOf("t", block(node(api.NodeDo, name("g"))))), 1)
}

// Promise 12.1: more kids than a text gives, or fewer.
func TestCountsOfKids(t *testing.T) {
	noText(t, "a global without a literal", program(global("g", 1)), 0)
	noText(t, "a global with two", program(global("g", 1, whole(1), whole(1))), 0)
	noText(t, "a function without anything", program(function("f", 1)), 0)
	noText(t, "a function with parameters alone", program(function("f", 1, param("a", 1), param("b", 1))), 0)
	noText(t, "a function with two blocks", program(function("f", 1, block(), block(node(api.NodeReturn, whole(1))))), 0)
	noText(t, "a test without a block", program(testOf("t")), 0)
	noText(t, "a test with two", program(testOf("t", block(), block())), 0)
	noText(t, "a test with a parameter", program(testOf("t", param("a", 1), block())), 0)
	noText(t, "a parameter with a kid", program(function("f", 1, typed(api.NodeParam, 1, "a", whole(1)), block(node(api.NodeReturn, whole(1))))), 0)
	statementTree(t, "an if of nothing", node(api.NodeIf))
	statementTree(t, "an if without blocks", node(api.NodeIf, yes()))
	statementTree(t, "an if of four", node(api.NodeIf, yes(), block(), block(), block()))
	statementTree(t, "an if without a condition", node(api.NodeIf, block(), block()))
	statementTree(t, "a loop of nothing", node(api.NodeFor))
	statementTree(t, "a loop without a block", node(api.NodeFor, yes()))
	statementTree(t, "a loop of three", node(api.NodeFor, yes(), block(), block()))
	statementTree(t, "a skip of something", node(api.NodeSkip, whole(1)))
	statementTree(t, "a name for nothing", named(api.NodeDefine, "x"))
	statementTree(t, "a name for two", named(api.NodeDefine, "x", whole(1), whole(1)))
	statementTree(t, "an assertion of nothing", node(api.NodeAssert))
	statementTree(t, "an assertion of two", node(api.NodeAssert, yes(), yes()))
	statementTree(t, "nothing done", node(api.NodeDo))
	noText(t, "an assignment of nothing", inTest(named(api.NodeDefine, "x", whole(1)), named(api.NodeAssign, "x")), 0)
	noText(t, "an assignment of two", inTest(named(api.NodeDefine, "x", whole(1)), named(api.NodeAssign, "x", whole(1), whole(1))), 0)
	noText(t, "a return of nothing", program(function("f", 1, block(node(api.NodeReturn)))), 0)
	noText(t, "a return of two", program(function("f", 1, block(node(api.NodeReturn, whole(1), whole(1))))), 0)
	noText(t, "two calls done", program(function("f", 1, block(node(api.NodeReturn, whole(1)))), testOf("t", block(node(api.NodeDo, call("f"), call("f"))))), 1)
	noText(t, "a variable of something", program(global("g", 3, yes()), testOf("t", block(node(api.NodeAssert, named(api.NodeVar, "g", yes()))))), 1)
	for what, n := range map[string]api.Node{
		"a whole number of something":     node(api.NodeInt, whole(1)),
		"a number with a point of one":    typed(api.NodeFloat, 0, "0.0", whole(1)),
		"yes or no of something":          node(api.NodeBool, yes()),
		"a sign ahead of nothing":         named(api.NodeUnary, "-"),
		"a sign ahead of two":             named(api.NodeUnary, "!", yes(), yes()),
		"a sign between nothing":          named(api.NodeBin, "+"),
		"a sign behind one":               named(api.NodeBin, "-", whole(1)),
		"a sign between three":            named(api.NodeBin, "+", whole(1), whole(1), whole(1)),
		"a conversion of nothing":         typed(api.NodeConv, api.TypeInt, ""),
		"a conversion of two":             typed(api.NodeConv, api.TypeInt, "", whole(1), whole(1)),
		"a conversion of nothing to none": typed(api.NodeConv, 0, ""),
	} {
		expressionTree(t, what, n)
	}
}

// Promise 12.1: signs, types of conversions, literals and names that no text has.
func TestPartsThatNoTextHas(t *testing.T) {
	for _, sign := range []string{"", "?", "=", ":=", "++", "=>", "&", "|", "^", "<<", "!", " +", "+ ", "and", "(", ",", "\x00"} {
		expressionTree(t, "a sign between two "+sign, bin(whole(1), sign, whole(1)))
		expressionTree(t, "a sign between two unlike ones "+sign, bin(whole(1), sign, yes()))
	}
	for _, sign := range []string{"", "+", "--", "!!", "~", "*", "&", "- ", "not"} {
		expressionTree(t, "a sign ahead "+sign, named(api.NodeUnary, sign, whole(1)))
		expressionTree(t, "a sign ahead "+sign, named(api.NodeUnary, sign, yes()))
	}
	for _, kind := range []int{0, api.TypeBool, 4, -1, 1 << 32, math.MaxInt, math.MinInt} {
		expressionTree(t, "a conversion", typed(api.NodeConv, kind, "", whole(1)))
		expressionTree(t, "a conversion of no number", typed(api.NodeConv, kind, "", yes()))
	}
	for _, n := range []int64{-1, -5, math.MinInt64, math.MinInt64 + 1} {
		expressionTree(t, "a number below nought", whole(n))
	}
	for _, n := range []int64{2, -1, math.MaxInt64, math.MinInt64} {
		expressionTree(t, "neither yes nor no", api.Node{Kind: api.NodeBool, N: n})
		noText(t, "a global that is neither yes nor no", program(global("g", api.TypeBool, api.Node{Kind: api.NodeBool, N: n})), 0)
	}
	for what, n := range map[string]api.Node{
		"a whole number with a text":     {Kind: api.NodeInt, S: "1", N: 1},
		"yes with a text":                {Kind: api.NodeBool, S: "true", N: 1},
		"a sign ahead with a number":     {Kind: api.NodeUnary, S: "-", N: 1, Kids: []api.Node{whole(1)}},
		"a sign between with a number":   {Kind: api.NodeBin, S: "-", N: -1, Kids: []api.Node{whole(1), whole(1)}},
		"a conversion with a number":     {Kind: api.NodeConv, T: 1, N: 1, Kids: []api.Node{whole(1)}},
		"a conversion with a text":       {Kind: api.NodeConv, T: 1, S: "int", Kids: []api.Node{whole(1)}},
		"a number with its sign set":     {Kind: api.NodeFloat, S: "1.5", N: ast.Bits("1.5") | math.MinInt64},
		"nought with its sign set":       {Kind: api.NodeFloat, S: "0.0", N: math.MinInt64},
		"a number with no digits":        {Kind: api.NodeFloat},
		"a number with other bits":       {Kind: api.NodeFloat, S: "1.5", N: ast.Bits("2.5")},
		"a number with a bit too much":   {Kind: api.NodeFloat, S: "1.5", N: ast.Bits("1.5") + 1},
		"a number with no bits":          {Kind: api.NodeFloat, S: "1.5"},
		"a number that is the bits' own": {Kind: api.NodeFloat, S: "1.0", N: 1},
	} {
		expressionTree(t, what, n)
	}
}

// Promise 12.1: literals of globals may have a sign.
func TestLiteralsOfGlobals(t *testing.T) {
	for _, n := range []int64{0, 1, -1, math.MaxInt64, -math.MaxInt64} {
		accepts(t, "a whole number", program(global("g", api.TypeInt, whole(n))))
	}
	noText(t, "the lowest number", program(global("g", api.TypeInt, whole(math.MinInt64))), 0)
	for _, s := range []string{"0.0", "1.5", "0.1", "123456789012.345"} {
		n := ast.Float(s)
		accepts(t, s, program(global("g", api.TypeFloat, n)))
		n.N ^= math.MinInt64
		accepts(t, "-"+s, program(global("g", api.TypeFloat, n)))
		n.N++
		noText(t, "-"+s+" with another bit", program(global("g", api.TypeFloat, n)), 0)
	}
	noText(t, "a text", program(global("g", 1, api.Node{Kind: api.NodeInt, S: "-", N: -1})), 0)
	noText(t, "yes below nought", program(global("g", 3, api.Node{Kind: api.NodeBool, N: -1})), 0)
	noText(t, "a kid", program(global("g", 1, node(api.NodeInt, whole(1)))), 0)
	rejects(t, "a kid that is rejected", program(global("g", 1, node(api.NodeInt, name("y")))), 0, api.ErrKnown)
	rejects(t, "a type that does not fit is told first", program(global("", 9, whole(1))), 0, api.ErrType)
}

// Promise 12.1: digits are those of a text, in their one form.
func TestDigitsThatTextsHave(t *testing.T) {
	list := []string{"", ".", "0", "0.", ".0", "0.0", "00.0", "0.00", "1.5", "01.5", "1.50", "10.0", "0.1", "1", "1e5", "1.5e5", "-1.5", "+1.5", " 1.5", "1.5 ", "1..5", "1.5.", "1,5", "1_0.5", "NaN", "Inf", "0x1.8", "٣.٥",
		"12345678901234.5", "123456789012345.6", "1.23456789012345", "1.234567890123456", "0.00000000000001", "0.000000000000001", "100000000000000.0", "10000000000000.0", strings.Repeat("9", 300) + ".5"}
	for _, s := range list {
		words, _, e := lex.Tokens(s)
		fine := e == api.OK && len(words) == 2 && words[0].Kind == api.TokFloat && words[0].S == s && ast.Digits(s) == s
		n := inTest(named(api.NodeDefine, "x", api.Node{Kind: api.NodeFloat, S: s, N: ast.Bits(s)}))
		if fine {
			accepts(t, "digits "+s, n)
		} else {
			rejects(t, "digits "+s, n, 0, api.ErrTree)
		}
		same(t, "whether a text has "+s, hasText(n), fine)
	}
}

// Promise 12.1: names are those of a text, wherever a node has one.
func TestNamesThatTextsHave(t *testing.T) {
	list := []string{"", "a", "_", "A9", "9", "9a", "a b", "a-b", "é", "a\x00", "\xff", "abcdefghijklmnop", "abcdefghijklmnopq", "int1", "Func", "func ", "-", "a.b", "{", "a@", "a[", "a`", "A{", "z", "Z", "a/", "a:"}
	list = append(list, "func", "test", "var", "if", "else", "for", "return", "assert", "skip", "true", "false", "int", "float", "bool")
	for b := range 256 {
		list = append(list, string([]byte{byte(b)}), string([]byte{'a', byte(b)}), string([]byte{byte(b), 'a'}))
	}
	for _, s := range list {
		returns := block(node(api.NodeReturn, whole(1)))
		for _, n := range []api.Node{
			program(global(s, 1, whole(1))),
			program(function(s, 1, returns)),
			program(testOf(s, block())),
			program(function("f", 1, param(s, 1), returns)),
			inTest(named(api.NodeDefine, s, whole(1))),
			program(testOf("f", block(named(api.NodeDefine, "x", name(s)))), global(s, 1, whole(1))),
			program(testOf("f", block(named(api.NodeAssign, s, whole(2)))), global(s, 1, whole(1))),
			program(testOf("t", block(node(api.NodeDo, call(s)))), function(s, 1, returns)),
		} {
			if s == "f" || s == "t" || s == "x" {
				continue
			}
			if lex.Name(s) {
				accepts(t, "a name "+short(s), n)
			} else {
				rejects(t, "a name "+short(s), n, 0, api.ErrTree)
			}
		}
	}
}

// Promise 12.1: types of declarations are types.
func TestTypesThatTextsHave(t *testing.T) {
	for _, kind := range []int{0, 4, -1, 99, 1<<32 + 1, math.MaxInt, math.MinInt} {
		returns := block(node(api.NodeReturn, call("f", whole(1))))
		noText(t, "a parameter", program(function("f", 1, param("a", kind), returns)), 0)
		noText(t, "a function", program(function("f", kind, param("a", 1), returns)), 0)
		noText(t, "a function without a return", program(function("f", kind, block())), 0)
		n := program(testOf("t", block(named(api.NodeDefine, "x", call("f")))), function("f", kind, block(node(api.NodeReturn, call("f")))))
		noText(t, "a function that is called ahead of it", n, 1)
		rejects(t, "a function that returns something", program(function("f", kind, block(node(api.NodeReturn, whole(1))))), 0, api.ErrType)
		rejects(t, "a global", program(global("g", kind, whole(1))), 0, api.ErrType)
	}
}

// Promise 12.1: statements and blocks, declarations too, have nothing that a text does not give them.
func TestPartsOfStatements(t *testing.T) {
	spoilt := func(n api.Node) []api.Node {
		typed, texted, numbered := n, n, n
		typed.T, numbered.N = 1, 1
		if n.S == "" {
			texted.S = "x"
		} else {
			texted.S = "no name"
		}
		return []api.Node{typed, texted, numbered}
	}
	returns := node(api.NodeReturn, whole(1))
	for _, n := range spoilt(block(returns)) {
		noText(t, "a block", program(function("f", 1, n)), 0)
	}
	for _, n := range spoilt(block()) {
		noText(t, "a test's block", program(testOf("t", n)), 0)
		statementTree(t, "an if's block", node(api.NodeIf, yes(), n))
		statementTree(t, "an if's other block", node(api.NodeIf, yes(), block(), n))
		statementTree(t, "a loop's block", node(api.NodeFor, yes(), n))
	}
	for _, n := range spoilt(returns) {
		noText(t, "a return", program(function("f", 1, block(n))), 0)
	}
	for _, s := range []api.Node{skip(), node(api.NodeAssert, yes()), node(api.NodeIf, yes(), block()), node(api.NodeFor, yes(), block()), named(api.NodeDefine, "y", whole(1))} {
		for _, n := range spoilt(s) {
			statementTree(t, "a statement", n)
		}
	}
	for _, n := range spoilt(node(api.NodeDo, call("f"))) {
		noText(t, "a call", program(function("f", 1, block(n, returns))), 0)
	}
	for _, n := range spoilt(testOf("t", block())) {
		noText(t, "a test", program(testOf("s", block()), n), 1)
	}
	assigns := named(api.NodeAssign, "g", whole(1))
	assigns.N = 1
	noText(t, "an assignment with a number", program(global("g", 1, whole(1)), testOf("t", block(assigns))), 1)
	assigns.N, assigns.T = 0, 1
	noText(t, "an assignment with a type", program(global("g", 1, whole(1)), testOf("t", block(assigns))), 1)
	for _, n := range []api.Node{
		{Kind: api.NodeGlobal, S: "g", T: 1, N: 1, Kids: []api.Node{whole(1)}},
		{Kind: api.NodeFunc, S: "f", T: 1, N: 1, Kids: []api.Node{block(returns)}},
		{Kind: api.NodeFunc, S: "f", T: 1, Kids: []api.Node{{Kind: api.NodeParam, S: "a", T: 1, N: 1}, block(returns)}},
		{Kind: api.NodeFunc, S: "f", T: 1, Kids: []api.Node{block(node(api.NodeReturn, api.Node{Kind: api.NodeCall, S: "f", N: 1}))}},
		{Kind: api.NodeFunc, S: "f", T: 1, Kids: []api.Node{param("a", 1), block(node(api.NodeReturn, api.Node{Kind: api.NodeVar, S: "a", N: 1}))}},
	} {
		noText(t, "a number", program(n), 0)
	}
}

// Promise 12.1: at one node that no text has, what is named ahead is told, and behind its kids.
func TestOtherReasonsAreNamedFirst(t *testing.T) {
	rejects(t, "a declaration's name", program(testOf("t", block()), api.Node{Kind: api.NodeFunc, S: "t", N: 5}), 1, api.ErrTwice)
	rejects(t, "a variable", inTest(node(api.NodeAssert, api.Node{Kind: api.NodeVar, S: "y", N: 1})), 0, api.ErrKnown)
	rejects(t, "a name that may not be", inTest(node(api.NodeAssert, name("no name"))), 0, api.ErrKnown)
	rejects(t, "a call", inTest(node(api.NodeDo, api.Node{Kind: api.NodeCall, S: "", N: 1})), 0, api.ErrKnown)
	rejects(t, "a name twice", inTest(named(api.NodeDefine, "x", yes()), named(api.NodeDefine, "x")), 0, api.ErrTwice)
	rejects(t, "an assignment", inTest(named(api.NodeAssign, "x")), 0, api.ErrKnown)
	rejects(t, "a return", inTest(node(api.NodeReturn)), 0, api.ErrReturn)
	rejects(t, "a type", inTest(api.Node{Kind: api.NodeAssert, N: 1, Kids: []api.Node{whole(1)}}), 0, api.ErrType)
	rejects(t, "a sum's types", inTest(named(api.NodeDefine, "x", api.Node{Kind: api.NodeBin, S: "+", N: 1, Kids: []api.Node{whole(1), yes()}})), 0, api.ErrType)
	rejects(t, "a kid", inTest(named(api.NodeDefine, "x", named(api.NodeBin, "+", name("y")))), 0, api.ErrKnown)
	rejects(t, "a kid's type", inTest(named(api.NodeDefine, "x", named(api.NodeBin, "?", bin(whole(1), "+", yes()), whole(1)))), 0, api.ErrType)
	rejects(t, "a kid of a parameter", program(function("f", 1, typed(api.NodeParam, 1, "a", name("y")), block(node(api.NodeReturn, whole(1))))), 0, api.ErrKnown)
	rejects(t, "a kid of a skip", inTest(node(api.NodeSkip, call("h"))), 0, api.ErrKnown)
	rejects(t, "a statement ahead", inTest(node(api.NodeAssert, whole(1)), api.Node{}), 0, api.ErrType)
	rejects(t, "a statement behind", inTest(api.Node{}, node(api.NodeAssert, whole(1))), 0, api.ErrTree)
	rejects(t, "a count", program(function("f", 1, block(node(api.NodeReturn, api.Node{Kind: api.NodeCall, S: "f", N: 1, Kids: []api.Node{whole(1)}})))), 0, api.ErrCount)
	rejects(t, "a declaration ahead", program(testOf("t", block(node(api.NodeReturn, yes()))), api.Node{}), 0, api.ErrReturn)
	rejects(t, "a declaration behind", program(testOf("t", block()), api.Node{}, testOf("s", block(node(api.NodeReturn, yes())))), 1, api.ErrTree)
}
