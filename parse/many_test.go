package parse

import (
	"strconv"
	"strings"
	"testing"

	"cupel/api"
	"cupel/ast"
)

// numbered is a text so many times, with a number in the place of each #.
func numbered(s string, times int) string {
	out := ""
	for i := range times {
		out += strings.ReplaceAll(s, "#", strconv.Itoa(i))
	}
	return out
}

// Promise 11.1: MaxGlobals globals, and one more, told at its first word, whatever stands behind that.
func TestManyGlobals(t *testing.T) {
	s := numbered("var g# int = #; ", 16)
	same(t, "globals", len(fine(t, s).Kids), 16)
	marked(t, s+"@var g int = 1;", api.ErrMany)
	marked(t, s+"@var", api.ErrMany)
	marked(t, s+"@var 1 2 3", api.ErrMany)
	marked(t, s+"@x", api.ErrParse)
	marked(t, s+"test t { } @var g int = 1; }", api.ErrMany)
	same(t, "with others between them", len(fine(t, numbered("test t# { } var g# int = 1; ", 16)).Kids), 32)
	marked(t, numbered("test t# { } var g# int = 1; ", 16)+"func f() int { } @var g int = 1;", api.ErrMany)
}

// Promise 11.1: MaxFuncs functions and tests together, and one more, told at its first word; globals do not count.
func TestManyFunctions(t *testing.T) {
	for _, s := range []string{numbered("test t# { } ", 32), numbered("func f#() int { } ", 32), numbered("test t# { } func f#() int { } ", 16), numbered("func f#() int { }", 31) + "test t { }", numbered("test t# { }", 31) + "func f() int { }"} {
		same(t, "functions and tests", len(fine(t, s).Kids), 32)
		marked(t, s+"@test t { }", api.ErrMany)
		marked(t, s+"@test", api.ErrMany)
		marked(t, s+"@test 1", api.ErrMany)
		marked(t, s+"@func f() int { }", api.ErrMany)
		marked(t, s+"@func", api.ErrMany)
		marked(t, s+"@x", api.ErrParse)
		marked(t, s+"@}", api.ErrParse)
		with := s + numbered("var g# int = #; ", 16)
		same(t, "with globals", len(fine(t, with).Kids), 48)
		marked(t, with+"@func f() int { }", api.ErrMany)
		marked(t, with+"@var g int = 1;", api.ErrMany)
	}
}

// Promise 11.1: MaxParams parameters, and one more, told at its first word.
func TestManyParameters(t *testing.T) {
	six := "a int, b float, c bool, d int, e float, f bool"
	same(t, "parameters", len(fine(t, "func f("+six+") int { }").Kids[0].Kids), 7)
	marked(t, "func f("+six+", @g int) int { }", api.ErrMany)
	marked(t, "func f("+six+", @g int, h int) int { }", api.ErrMany)
	marked(t, "func f("+six+", @g", api.ErrMany)
	marked(t, "func f("+six+", @g )", api.ErrMany)
	marked(t, "func f("+six+", @) int { }", api.ErrParse)
	marked(t, "func f("+six+", @int", api.ErrParse)
	marked(t, "func f("+six+",@", api.ErrParse)
	marked(t, "func f("+six+" @g int) int { }", api.ErrParse)
	same(t, "of each function its own", len(fine(t, numbered("func f#("+six+") int { } ", 32)).Kids), 32)
}

// Promise 11.1: MaxParams arguments, and one more, told at its first word; of each call its own.
func TestManyArguments(t *testing.T) {
	for _, head := range []string{"f(", "x = f(", "return -f(", "f(g(", "if f(", "f(1, 2, 3, 4, 5, g(", "f(1, 2, 3, 4, g(1, 2, 3, 4, 5, 6), g("} {
		s := "test t { " + head + "1, 2, 3, 4, 5, 6"
		for _, argument := range []string{"7", "7.5", "true", "x", "-7", "!x", "(7)", "int(7)", "float(7)", "g()", "7 + 8", "-;", "(;", "x y", "int;", "g(,"} {
			marked(t, s+", @"+argument+")", api.ErrMany)
		}
		for _, other := range []string{")", ";", ",", "}", "*", "bool", "skip", ""} {
			marked(t, s+", @"+other, api.ErrParse)
		}
	}
	parses(t, "test t { f(1, 2, 3, 4, 5, g(1, 2, 3, 4, 5, 6)); }", inTest(node(api.NodeDo, call("f", whole(1), whole(2), whole(3), whole(4), whole(5), call("g", whole(1), whole(2), whole(3), whole(4), whole(5), whole(6))))))
	fine(t, "test t { return f(1, 2, 3, 4, 5, 6) + f(1, 2, 3, 4, 5, 6); }")
}

// Promise 11.1: 32 statements of one block, and one more, told at its first word; of each block its own.
func TestManyStatements(t *testing.T) {
	statements := []string{"a := 1;", "a = 1;", "if a { }", "if a { } else { }", "if a { } else if b { }", "for a { }", "return 1;", "assert a;", "skip;", "f();"}
	heads := []string{"test t { ", "func f() int { ", "test t { for a { ", "test t { if a { ", "test t { if a { } else { ", "test t { if a { } else if b { ", "test t { skip; if a { } skip; for a { "}
	for _, head := range heads {
		for _, each := range statements {
			s := head + strings.Repeat(each+" ", 32)
			fine(t, s+strings.Repeat("}", strings.Count(head, "{")-strings.Count(head, "}")))
			for _, one := range statements {
				marked(t, s+"@"+one+" }", api.ErrMany)
			}
			for _, begun := range []string{"a", "a ;", "if", "if ;", "for", "return", "return }", "assert", "skip", "skip }"} {
				marked(t, s+"@"+begun, api.ErrMany)
			}
			for _, other := range []string{";", "{ }", "1;", "var", "(", ""} {
				marked(t, s+"@"+other, api.ErrParse)
			}
		}
	}
	full := "{" + strings.Repeat("skip;", 31)
	fine(t, "test t"+full+"for a"+full+"if a"+full+"skip;}else"+full+"skip;}}}")
	marked(t, "test t"+full+"for a"+full+"if a"+full+"skip;}else"+full+"skip;}}@skip;}", api.ErrMany)
	marked(t, "test t"+full+"for a"+full+"if a"+full+"skip;}else"+full+"skip;}@skip;}", api.ErrMany)
	marked(t, "test t"+full+"for a"+full+"if a"+full+"skip;}else"+full+"skip;@skip;}", api.ErrMany)
}

// fill is a test of just so many nodes, 4 at least.
func fill(nodes int) string {
	return "test z{assert " + strings.Repeat("-", nodes%2) + "1" + strings.Repeat("+1", (nodes-4)/2) + ";} "
}

// Promise 11.1: MaxNodes nodes, the program among them, and one more, told at the text's end, behind which no word is left.
func TestManyNodes(t *testing.T) {
	for nodes := 4; nodes < 2000; nodes += 1 + nodes/20 {
		same(t, "nodes", ast.Count(fine(t, fill(nodes))), nodes+1)
	}
	same(t, "as many as may be", ast.Count(fine(t, fill(1999))), 2000)
	for _, behind := range []string{"", " ", "// a note", "\n// a note\n"} {
		s := fill(2000) + behind
		refuses(t, s, len(s), api.ErrMany)
	}
	marked(t, fill(2000)+"@x", api.ErrParse)
	marked(t, fill(2001)+"@test t { }", api.ErrMany)
	marked(t, fill(1999)+"test t { }@", api.ErrMany)
	marked(t, fill(1998)+"test t { } @", api.ErrMany)
	fine(t, fill(1997)+"test t { } ")
	same(t, "together", ast.Count(fine(t, fill(997)+fill(1000)+"test t { }")), 2000)
	marked(t, fill(997)+fill(1001)+"test t { }@", api.ErrMany)
}

// Promise 11.1: one node more than MaxNodes, told behind its own words, for each kind of nodes; each text is told with how many nodes stand ahead of it.
func TestOneNodeTooMany(t *testing.T) {
	for _, x := range []struct {
		ahead int
		s     string
	}{
		{2000, "var g int = 1@; test t { }"}, {2000, "var g int = -1@; test t { }"}, {2000, "var g int = -1.5@;"}, {2000, "var g int = true@;"}, {1999, "var g int = 1; @test t { }"}, {1998, "var g int = 1; @"},
		{2000, "func f(a int@) int { }"}, {2000, "func f(a int@, b int) int { }"}, {1999, "func f(a int, b int@) int { }"}, {1999, "func f(a int) int { } @test t { }"}, {1998, "func f(a int) int { } @test t { }"}, {1997, "func f(a int) int { } @"}, {2000, "func f() int { } @var g int = 1;"},
		{2000, "test t { } @test u { }"}, {1999, "test t { } @test u { }"}, {1998, "test t { } @"},
		{2000, "test t { skip; @skip; }"}, {1999, "test t { skip; skip; @}"}, {1999, "test t { skip; } @"},
		{2000, "test t { a := 1@; }"}, {1999, "test t { a := 1; @}"}, {2000, "test t { a = b@; }"}, {1999, "test t { a = b; @skip; }"},
		{2000, "test t { return b@; }"}, {1999, "test t { return b; @}"}, {2000, "test t { assert b@; }"}, {1999, "test t { assert b; @}"},
		{2000, "test t { if a @{ } }"}, {1999, "test t { if a { } @}"}, {1998, "test t { if a { } @skip; }"}, {1999, "test t { if a { } @else { } }"}, {1998, "test t { if a { } else { } @}"}, {1997, "test t { if a { } else { } @skip; }"},
		{1998, "test t { if a { } else if b @{ } }"}, {1997, "test t { if a { } else if b { } @}"}, {1996, "test t { if a { } else if b { } @}"}, {1995, "test t { if a { } else if b { } @}"}, {1994, "test t { if a { } else if b { } @skip; }"}, {1997, "test t { if a { } else if b { } @else { } }"},
		{2000, "test t { for a @{ } }"}, {1999, "test t { for a { } @}"}, {1998, "test t { for a { } @skip; }"}, {2000, "test t { for a @{ skip; } }"}, {1999, "test t { for a { skip; @} }"},
		{2000, "test t { f()@; }"}, {1999, "test t { f(); @}"}, {2000, "test t { f(1@, 2); }"}, {1999, "test t { f(1, 2@); }"}, {1998, "test t { f(1, 2)@; }"}, {1997, "test t { f(1, 2); @}"},
		{2000, "test t { assert -1@; }"}, {1999, "test t { assert -1@; }"}, {1998, "test t { assert -1; @}"}, {1999, "test t { assert -1 @+ 1; }"}, {1998, "test t { assert !-1 @+ 1; }"},
		{2000, "test t { assert a @+ b; }"}, {1999, "test t { assert a + b@; }"}, {1998, "test t { assert a + b@; }"}, {1997, "test t { assert a + b; @}"}, {1998, "test t { assert a + b @- c; }"}, {1998, "test t { assert a + b * c@; }"}, {1997, "test t { assert a + b * c @* d; }"}, {1999, "test t { assert a + b @* c; }"}, {1996, "test t { assert a + b * c @- d; }"},
		{2000, "test t { assert int(a@); }"}, {1999, "test t { assert int(a)@; }"}, {1999, "test t { assert float(a) @+ 1.5; }"},
		{2000, "test t { assert (a@); }"}, {1999, "test t { assert (a); @}"}, {1998, "test t { assert (a + b@) * c; }"}, {1997, "test t { assert (a + b) * c@; }"}, {2000, "test t { assert ((a@)); }"},
		{2000, "test t { assert 1.5@; }"}, {2000, "test t { assert true@; }"}, {2000, "test t { assert a@; }"},
	} {
		marked(t, fill(x.ahead)+x.s, api.ErrMany)
		fine(t, fill(x.ahead-20)+strings.Replace(x.s, "@", "", 1))
	}
}

// Promise 11.1: far more nodes than there may be: the first one that is too many is told, within a long sum.
func TestFarTooManyNodes(t *testing.T) {
	head := "test z{assert 1"
	s := head + strings.Repeat("+1", 1900) + ";}"
	refuses(t, s, len(head)+2*1000, api.ErrMany) // 1001 terms, and 1000 signs between them
	refuses(t, "test t { } "+s, 11+len(head)+2*999, api.ErrMany)
	refuses(t, "test t { skip; } "+s, 17+len(head)+2*999, api.ErrMany)
	refuses(t, head+strings.Repeat("+1", 1000), len(head)+2*1000, api.ErrParse)
	refuses(t, head+strings.Repeat("+1", 1000)+"+", len(head)+2*1000, api.ErrMany)
	refuses(t, head+strings.Repeat("+1", 999)+"+", len(head)+2*999+1, api.ErrParse)
	wide := "test t{" + strings.Repeat("f(1,2,3,4,5,6);", 32) + "}" // 8 nodes each
	same(t, "nodes", ast.Count(fine(t, strings.Repeat(wide, 7))), 7*258+1)
	refuses(t, strings.Repeat(wide, 8), 7*len(wide)+len("test t{")+24*15+len("f(1,2,3"), api.ErrMany) // 7 * 258 and 24 * 8 of 2000 leave 2
}

// Promise 11.1: brackets, calls, conversions and signs ahead as deep as they may be, and one deeper, told at the word that goes deeper; the block around them is a level, too.
func TestDeepExpressions(t *testing.T) {
	for _, x := range []struct{ open, deeper, shut string }{
		{"(", "@(", ")"}, {"f(", "f@(", ")"}, {"f(1, ", "f@(1, ", ")"}, {"f(", "f@(", ", 1)"}, {"int(", "int@(", ")"}, {"float(", "float@(", ")"}, {"-", "@-", ""}, {"!", "@!", ""}, {"1 + (", "1 + @(", ")"}, {"(", "@(", ") * 2"}, {"1 - -", "", ""}, {"f(2) + (", "f@(2) + (", ")"},
	} {
		for _, head := range []string{"x = ", "x := ", "return ", "assert "} {
			s := "test t { " + head + strings.Repeat(x.open, 39) + "1" + strings.Repeat(x.shut, 39) + ";"
			fine(t, s+" }")
			fine(t, s+strings.Replace(s, "test t {", "", 1)+" }")
			if x.deeper != "" { // signs ahead that are not within one another are no deeper
				marked(t, "test t { "+head+strings.Repeat(x.open, 39)+x.deeper+"1"+strings.Repeat(x.shut, 40)+"; }", api.ErrMany)
				marked(t, "test t { "+head+strings.Repeat(x.open, 39)+x.deeper+strings.Repeat(x.open, 300), api.ErrMany)
			}
		}
	}
	open, shut := strings.Repeat("(", 38), strings.Repeat(")", 38)
	for _, x := range []struct{ head, tail string }{{"f(", "); }"}, {"if ", "{ } }"}, {"for a { x = ", "; } }"}, {"x = -", "; }"}, {"x = int(", "); }"}, {"x = g(", "); }"}, {"x = g(1, ", ", 2); }"}} {
		s := "test t { " + x.head + open
		fine(t, s+"1"+shut+x.tail)
		marked(t, s+"@(1)"+shut+x.tail, api.ErrMany)
		marked(t, s+"@-1"+shut+x.tail, api.ErrMany)
		marked(t, s+"f@()"+shut+x.tail, api.ErrMany)
		marked(t, s+"int@(1)"+shut+x.tail, api.ErrMany)
		marked(t, s+"int@;", api.ErrParse)
	}
	marked(t, "test t { for "+open+"(@(", api.ErrMany)
	marked(t, "test t { f("+strings.Repeat("g(", 38)+"g@(", api.ErrMany)
	marked(t, "test t { x = "+strings.Repeat("-(", 19)+"-@(", api.ErrMany)
	marked(t, "test t { x = "+strings.Repeat("-int(", 19)+"!f@(", api.ErrMany)
	marked(t, "test t { x = "+strings.Repeat("-f(", 19)+"!@-", api.ErrMany)
}

// Promise 11.1: blocks as deep as they may be, and one deeper; loops themselves are no deeper.
func TestDeepBlocks(t *testing.T) {
	for _, head := range []string{"test t { ", "func f(a int) int { "} {
		s := head + strings.Repeat("for a { ", 39)
		fine(t, s+strings.Repeat("} ", 40))
		fine(t, s+"skip; x = f; "+strings.Repeat("} skip; ", 39)+"}")
		marked(t, s+"for a @{ "+strings.Repeat("} ", 41), api.ErrMany)
		marked(t, s+"for a @;", api.ErrParse)
		marked(t, s+"@if a { }", api.ErrMany)
		marked(t, s+"@if", api.ErrMany)
		marked(t, s+"f@();", api.ErrMany)
		marked(t, s+"f@(", api.ErrMany)
		marked(t, s+"f@;", api.ErrParse)
		marked(t, s+"x = @(1);", api.ErrMany)
		marked(t, s+"x = @-1;", api.ErrMany)
		marked(t, s+"for @!a { }", api.ErrMany)
		marked(t, s+"} for a { for a @{", api.ErrMany)
	}
}

// Promise 11.1: ifs and their blocks within one another: both are levels, each told at its own word; what stands behind an else is within its if.
func TestDeepIfs(t *testing.T) {
	s := "test t { " + strings.Repeat("if a { ", 19) // 39 levels
	fine(t, s+strings.Repeat("} ", 20))
	fine(t, s+"x = (1); f(); "+strings.Repeat("} ", 20))
	fine(t, s+"for a { } "+strings.Repeat("} ", 20))
	marked(t, s+"if a @{ }", api.ErrMany)
	marked(t, s+"if @(a) { }", api.ErrMany)
	marked(t, s+"for a { @if a { }", api.ErrMany)
	marked(t, s+"if a @;", api.ErrParse)
	s = "test t { " + strings.Repeat("if a { } else { ", 19)
	fine(t, s+strings.Repeat("} ", 20))
	marked(t, s+"if a @{ } else { ", api.ErrMany)
	marked(t, s+"for a { @if", api.ErrMany)
	s = "test t { for a { " + strings.Repeat("if a { ", 18) // 38 levels
	fine(t, s+"if a { } else { } "+strings.Repeat("} ", 20))
	marked(t, s+"if a { for a @{ }", api.ErrMany)
	marked(t, s+"if a { } else { for a @{ }", api.ErrMany)
	fine(t, "test t { "+numbered("if (a) { for b { x# = -1; } } ", 32)+" }")
}

// Promise 11.1: a row of ifs behind else: each is a level below the one ahead of it, and so are its block and its condition's brackets.
func TestDeepRowsOfIfs(t *testing.T) {
	row := strings.Repeat("if a { } else ", 37)
	n := fine(t, "test t { "+row+"if a { } }")
	same(t, "ifs", strings.Count(ast.Print(n), "if a"), 38)
	fine(t, "test t { "+row+"if (a) { } else { } skip; if a { } }")
	marked(t, "test t { "+row+"if a { } else if a @{ }", api.ErrMany)
	marked(t, "test t { "+row+"if a { } else if @((a)) { }", api.ErrMany)
	marked(t, "test t { "+row+"if a { } else if @{ }", api.ErrParse)
	marked(t, "test t { "+row+"if a { for b @{ } }", api.ErrMany)
	marked(t, "test t { "+row+"if a { } else { for b @{ } }", api.ErrMany)
	marked(t, "test t { "+row+"if a { } else { @if", api.ErrMany)
	marked(t, "test t { for a { "+row+"if a @{ } }", api.ErrMany)
}

// Promise 11.1: levels end where what made them ends: texts of many that are as deep as may be, beside one another.
func TestDeepBesideOthers(t *testing.T) {
	deep := strings.Repeat("(", 39) + "1" + strings.Repeat(")", 39)
	fine(t, "test t { x = "+strings.Repeat(deep+" + ", 30)+"1; }")
	fine(t, "test t { "+strings.Repeat("x = "+deep+"; ", 32)+"}")
	fine(t, "test t { x = "+strings.Repeat("-", 39)+"1 - "+strings.Repeat("!", 39)+"f; if a { } else if b { } x = "+deep+"; }")
	fine(t, "test t { f("+strings.Repeat("g(1), -1, (1), int(1), ", 1)+"1); x = "+deep+"; }")
	fine(t, strings.Repeat("test t { "+strings.Repeat("for a {", 39)+strings.Repeat("}", 39)+"} ", 10))
	fine(t, "test t { x = "+strings.Repeat("1 + ", 900)+"1; }")
	fine(t, "test t { x = "+strings.Repeat("a || b && c < d + e * ", 40)+"1; }")
}
