package parse

import (
	"math"
	"strings"
	"testing"

	"cupel/api"
	"cupel/ast"
)

// Promise 11.1: the numbers of the errors.
func TestNumbers(t *testing.T) {
	same(t, "ErrParse", int(api.ErrParse), 110)
	same(t, "ErrMany", int(api.ErrMany), 3)
	same(t, "ErrLex", int(api.ErrLex), 90)
	same(t, "MaxDepth", api.MaxDepth, 40)
	same(t, "MaxNodes", api.MaxNodes, 2000)
	same(t, "MaxGlobals", api.MaxGlobals, 16)
	same(t, "MaxFuncs", api.MaxFuncs, 32)
	same(t, "MaxParams", api.MaxParams, 6)
}

// Promise 11.1: texts without a declaration.
func TestNoDeclarations(t *testing.T) {
	parses(t, "", node(api.NodeProgram))
	for _, s := range []string{"", " ", "\n", "\t\n ", "//", "// var", "// func f( ?\n", "//\n//\n\n // x \xff"} {
		n := fine(t, s)
		same(t, "kids", len(n.Kids), 0)
		fine(t, s+"\n"+s)
	}
}

// Words: declarations, each alone, and in any order.
func TestDeclarations(t *testing.T) {
	g := typed(api.NodeGlobal, api.TypeInt, "g", whole(1))
	f := typed(api.NodeFunc, api.TypeFloat, "f", typed(api.NodeParam, api.TypeInt, "a"), typed(api.NodeParam, api.TypeBool, "b"), block())
	h := named(api.NodeTest, "h", block(node(api.NodeSkip)))
	texts := []string{"var g int = 1 ;", "func f ( a int , b bool ) float { }", "test h { skip ; }"}
	trees := []api.Node{g, f, h}
	for i := range texts {
		parses(t, texts[i], node(api.NodeProgram, trees[i]))
		for j := range texts {
			for k := range texts {
				parses(t, texts[i]+texts[j]+"\n"+texts[k], node(api.NodeProgram, trees[i], trees[j], trees[k]))
			}
		}
	}
	parses(t, "var g int=1;func f(a int,b bool)float{}test h{skip;}", node(api.NodeProgram, g, f, h))
}

// Words: functions without parameters and with as many as there may be, and of each type; that names are twice is not for this layer.
func TestFunctions(t *testing.T) {
	words := map[int]string{api.TypeInt: "int", api.TypeFloat: "float", api.TypeBool: "bool"}
	for kind, word := range words {
		parses(t, "func f() "+word+" { }", node(api.NodeProgram, typed(api.NodeFunc, kind, "f", block())))
		parses(t, "func f(a "+word+") int { }", node(api.NodeProgram, typed(api.NodeFunc, api.TypeInt, "f", typed(api.NodeParam, kind, "a"), block())))
	}
	want := typed(api.NodeFunc, api.TypeBool, "f")
	var list []string
	for i := range 6 {
		kind := i%3 + 1
		list = append(list, "a "+words[kind])
		want.Kids = append(want.Kids, typed(api.NodeParam, kind, "a"))
		with := want
		with.Kids = append(append([]api.Node{}, want.Kids...), block(node(api.NodeReturn, yes())))
		parses(t, "func f("+strings.Join(list, ", ")+") bool { return true; }", node(api.NodeProgram, with))
	}
}

// Words: names as long as they may be, and ones that begin as kept words do.
func TestNames(t *testing.T) {
	for _, s := range []string{"a", "_", "A9", "abcdefghijklmnop", "variable", "iff", "Int", "tests", "skip_", "true1", "returns"} {
		parses(t, "var "+s+" int = 1; func "+s+"("+s+" int) int { "+s+" := "+s+"; "+s+"(); } test "+s+" { }", node(api.NodeProgram,
			typed(api.NodeGlobal, 1, s, whole(1)),
			typed(api.NodeFunc, 1, s, typed(api.NodeParam, 1, s), block(named(api.NodeDefine, s, name(s)), node(api.NodeDo, call(s)))),
			named(api.NodeTest, s, block())))
	}
}

// Words: globals of each type, with numbers below nought and of -0.0; which literal fits a type is not for this layer.
func TestGlobals(t *testing.T) {
	literals := []struct {
		s string
		n api.Node
	}{
		{"0", whole(0)}, {"-0", whole(0)}, {"1", whole(1)}, {"-1", whole(-1)}, {"- 7", whole(-7)},
		{"9223372036854775807", whole(math.MaxInt64)}, {"-9223372036854775807", whole(-math.MaxInt64)},
		{"0.0", pointed("0.0", 0)}, {"-0.0", pointed("0.0", math.MinInt64)}, {"-00.00", pointed("0.0", math.MinInt64)},
		{"1.5", pointed("1.5", 0x3ff8000000000000)}, {"-1.5", pointed("1.5", -0x4008000000000000)}, {"- 001.500", pointed("1.5", -0x4008000000000000)},
		{"-2.0", pointed("2.0", -0x4000000000000000)},
		{"true", yes()}, {"false", no()},
	}
	for _, l := range literals {
		for kind, word := range []string{"", "int", "float", "bool"} {
			if kind > 0 {
				parses(t, "var g "+word+" = "+l.s+";", node(api.NodeProgram, typed(api.NodeGlobal, kind, "g", l.n)))
			}
		}
	}
	same(t, "its bits", math.Signbit(math.Float64frombits(uint64(fine(t, "var g float = -0.0;").Kids[0].Kids[0].N))), true)
	same(t, "its bits", math.Float64frombits(uint64(fine(t, "var g float = -123.25;").Kids[0].Kids[0].N)), -123.25)
	same(t, "printed", ast.Print(fine(t, "var a int = - 3; var b float = -0.0; var c float = - 01.50;")), "var a int = -3;\nvar b float = -0.0;\nvar c float = -1.5;\n")
}

// Words: each kind of statement, alone and beside others.
func TestStatements(t *testing.T) {
	statement(t, "a := 1;", named(api.NodeDefine, "a", whole(1)))
	statement(t, "a = 1;", named(api.NodeAssign, "a", whole(1)))
	statement(t, "return 1;", node(api.NodeReturn, whole(1)))
	statement(t, "assert true;", node(api.NodeAssert, yes()))
	statement(t, "skip;", node(api.NodeSkip))
	statement(t, "f();", node(api.NodeDo, call("f")))
	statement(t, "f(1);", node(api.NodeDo, call("f", whole(1))))
	statement(t, "f(a, 2, g());", node(api.NodeDo, call("f", name("a"), whole(2), call("g"))))
	statement(t, "for a { }", node(api.NodeFor, name("a"), block()))
	statement(t, "for a { skip; for b { } }", node(api.NodeFor, name("a"), block(node(api.NodeSkip), node(api.NodeFor, name("b"), block()))))
	parses(t, "test t { }", inTest())
	parses(t, "test t { a := 1; a = 2; if a { } for b { } return c; assert d; skip; e(); }", inTest(
		named(api.NodeDefine, "a", whole(1)), named(api.NodeAssign, "a", whole(2)), node(api.NodeIf, name("a"), block()), node(api.NodeFor, name("b"), block()),
		node(api.NodeReturn, name("c")), node(api.NodeAssert, name("d")), node(api.NodeSkip), node(api.NodeDo, call("e"))))
}

// Words: an if without else, with a block behind it, with another if, which stands in a block of its own, and rows of these.
func TestIfs(t *testing.T) {
	skip := node(api.NodeSkip)
	one := node(api.NodeIf, name("a"), block(skip))
	statement(t, "if a { skip; }", one)
	statement(t, "if a { skip; } else { }", node(api.NodeIf, name("a"), block(skip), block()))
	statement(t, "if a { } else { skip; skip; }", node(api.NodeIf, name("a"), block(), block(skip, skip)))
	statement(t, "if b { } else if a { skip; }", node(api.NodeIf, name("b"), block(), block(one)))
	statement(t, "if b { } else { if a { skip; } }", node(api.NodeIf, name("b"), block(), block(one)))
	statement(t, "if c { } else if b { } else if a { skip; }", node(api.NodeIf, name("c"), block(), block(node(api.NodeIf, name("b"), block(), block(one)))))
	statement(t, "if c { } else if b { } else { skip; }", node(api.NodeIf, name("c"), block(), block(node(api.NodeIf, name("b"), block(), block(skip)))))
	statement(t, "if b { if a { skip; } } else { }", node(api.NodeIf, name("b"), block(one), block()))
	statement(t, "if b { if a { skip; } else { } }", node(api.NodeIf, name("b"), block(node(api.NodeIf, name("a"), block(skip), block()))))
	parses(t, "test t { if a { skip; } if a { skip; } else if a { skip; } if a { skip; } }", inTest(one, node(api.NodeIf, name("a"), block(skip), block(one)), one))
}

// Words: each kind of expression, wherever one may stand.
func TestExpressions(t *testing.T) {
	expression(t, "0", whole(0))
	expression(t, "9223372036854775807", whole(math.MaxInt64))
	expression(t, "2.5", pointed("2.5", 0x4004000000000000))
	expression(t, "true", yes())
	expression(t, "false", no())
	expression(t, "b", name("b"))
	expression(t, "g()", call("g"))
	expression(t, "g(1)", call("g", whole(1)))
	expression(t, "g(1, b, 2.5, true, h(), 6)", call("g", whole(1), name("b"), pointed("2.5", 0x4004000000000000), yes(), call("h"), whole(6)))
	expression(t, "g(g(g(), g()))", call("g", call("g", call("g"), call("g"))))
	expression(t, "-1", unary("-", whole(1)))
	expression(t, "!b", unary("!", name("b")))
	expression(t, "int(2.5)", typed(api.NodeConv, api.TypeInt, "", pointed("2.5", 0x4004000000000000)))
	expression(t, "float(b)", typed(api.NodeConv, api.TypeFloat, "", name("b")))
	expression(t, "int(float(int(1)))", typed(api.NodeConv, api.TypeInt, "", typed(api.NodeConv, api.TypeFloat, "", typed(api.NodeConv, api.TypeInt, "", whole(1)))))
	expression(t, "(b)", name("b"))
	expression(t, "(((1)))", whole(1))
	for _, sign := range allSigns() {
		expression(t, "1 "+sign+" b", bin(whole(1), sign, name("b")))
	}
}

// Words: signs ahead, one behind the other; they bind what stands right behind them.
func TestSignsAhead(t *testing.T) {
	expression(t, "--1", unary("-", unary("-", whole(1))))
	expression(t, "- - 1", unary("-", unary("-", whole(1))))
	expression(t, "!!b", unary("!", unary("!", name("b"))))
	expression(t, "-!-b", unary("-", unary("!", unary("-", name("b")))))
	expression(t, "-0.0", unary("-", pointed("0.0", 0)))
	expression(t, "-g(-1)", unary("-", call("g", unary("-", whole(1)))))
	expression(t, "-int(-1)", unary("-", typed(api.NodeConv, 1, "", unary("-", whole(1)))))
	expression(t, "-(-1)", unary("-", unary("-", whole(1))))
	expression(t, "!(a && b)", unary("!", bin(name("a"), "&&", name("b"))))
	for _, sign := range allSigns() {
		expression(t, "-a "+sign+" !b", bin(unary("-", name("a")), sign, unary("!", name("b"))))
		expression(t, "-(a "+sign+" b)", unary("-", bin(name("a"), sign, name("b"))))
		expression(t, "a "+sign+" - - b", bin(name("a"), sign, unary("-", unary("-", name("b")))))
	}
	expression(t, "a--b", bin(name("a"), "-", unary("-", name("b"))))
	expression(t, "a!=!b", bin(name("a"), "!=", unary("!", name("b"))))
}

// Words: each sign beside each other one: the one of the higher rank binds, of one rank the left one.
func TestRanks(t *testing.T) {
	same(t, "signs", len(allSigns()), 13)
	for _, x := range allSigns() {
		for _, y := range allSigns() {
			left := "((a " + x + " b) " + y + " c)"
			right := "(a " + x + " (b " + y + " c))"
			want := left
			if rankOf(y) > rankOf(x) {
				want = right
			}
			binds(t, "a "+x+" b "+y+" c", want)
			binds(t, "(a "+x+" b) "+y+" c", left)
			binds(t, "a "+x+" (b "+y+" c)", right)
			binds(t, "-a "+x+" -b "+y+" -c", strings.NewReplacer("a", "-a", "b", "-b", "c", "-c").Replace(want))
		}
	}
}

// Words: rows of signs of one rank, and of all ranks, rising and falling.
func TestRowsOfSigns(t *testing.T) {
	binds(t, "a - b - c", "((a - b) - c)")
	binds(t, "a - b + c - d", "(((a - b) + c) - d)")
	binds(t, "a * b / c % d", "(((a * b) / c) % d)")
	binds(t, "a < b <= c > d >= e == f != g", "((((((a < b) <= c) > d) >= e) == f) != g)")
	binds(t, "a || b && c == d + e * f", "(a || (b && (c == (d + (e * f)))))")
	binds(t, "a * b + c == d && e || f", "(((((a * b) + c) == d) && e) || f)")
	binds(t, "a + b * c - d", "((a + (b * c)) - d)")
	binds(t, "a || b && c || d && e", "((a || (b && c)) || (d && e))")
	binds(t, "a * b < c * d && e + f > g", "(((a * b) < (c * d)) && ((e + f) > g))")
	binds(t, "-a * -(b + c) - !d", "((-a * -(b + c)) - !d)")
	binds(t, "f(a + b, c * d) - int(e - f - g)", "(f((a + b), (c * d)) - int(((e - f) - g)))")
}

// climbed is an expression of names by its signs, with all brackets: the sign of the lowest rank that stands last is its own.
func climbed(names, signs []string) string {
	if len(signs) == 0 {
		return names[0]
	}
	last := 0
	for i, sign := range signs {
		if rankOf(sign) <= rankOf(signs[last]) {
			last = i
		}
	}
	return "(" + climbed(names[:last+1], signs[:last]) + " " + signs[last] + " " + climbed(names[last+1:], signs[last+1:]) + ")"
}

// Words: all rows of five signs, one of each rank at each place.
func TestAllRowsOfRanks(t *testing.T) {
	names := []string{"a", "b", "c", "d", "e", "f"}
	for row := range 5 * 5 * 5 * 5 * 5 {
		var signs []string
		text := names[0]
		for i, left := 0, row; i < 5; i, left = i+1, left/5 {
			of := ranks[left%5]
			signs = append(signs, of[(row+i)%len(of)])
			text += signs[i] + names[i+1]
		}
		binds(t, text, climbed(names, signs))
	}
}

// Promise 11.1: types of expressions are 0, but of conversions; those of globals, functions and parameters stand in the text.
func TestTypes(t *testing.T) {
	n := fine(t, everything)
	kinds := map[int]int{}
	for _, x := range ast.All(n) {
		kinds[x.Kind]++
		switch x.Kind {
		case api.NodeGlobal, api.NodeFunc, api.NodeParam, api.NodeConv:
			if x.T < api.TypeInt || x.T > api.TypeBool {
				t.Errorf("a node of kind %d has the type %d", x.Kind, x.T)
			}
		default:
			same(t, "a type", x.T, 0)
		}
	}
	same(t, "all kinds", len(kinds), 22)
	same(t, "the same without types", ast.Same(n, ast.Bare(n)), true)
}

// Promise 11.1: digits in their one form, and their bits.
func TestDigits(t *testing.T) {
	for s, want := range map[string]string{"007.500": "7.5", "0.0": "0.0", "00.00": "0.0", "10.10": "10.1", "1.0": "1.0", "000.001": "0.001", "100.0": "100.0", "12345678.9012345": "12345678.9012345"} {
		expression(t, s, ast.Float(want))
		parses(t, "var g float = "+s+";", node(api.NodeProgram, typed(api.NodeGlobal, 2, "g", ast.Float(want))))
		same(t, s, fine(t, "var g float = -"+s+";").Kids[0].Kids[0].S, want)
	}
}

// Rule R2: what is answered is the caller's own; R4: the same text has the same tree.
func TestAnswersAreTheCallersOwn(t *testing.T) {
	first, second := fine(t, everything), fine(t, everything)
	want := ast.Print(second)
	var spoil func(n *api.Node)
	spoil = func(n *api.Node) {
		kids := n.Kids[:cap(n.Kids)] // what lies behind a list is not another one's, either
		for i := range kids {
			spoil(&kids[i])
		}
		*n = api.Node{Kind: 99, S: "?", Kids: n.Kids}
	}
	for i := range first.Kids {
		was := make([]string, len(first.Kids))
		for j := i + 1; j < len(first.Kids); j++ {
			was[j] = ast.Print(first.Kids[j])
		}
		spoil(&first.Kids[i])
		for j := i + 1; j < len(first.Kids); j++ {
			same(t, "one behind it", ast.Print(first.Kids[j]), was[j])
		}
	}
	same(t, "another answer", ast.Print(second), want)
	same(t, "a third one", ast.Same(fine(t, everything), second), true)
}
