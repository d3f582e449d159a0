package parse

import (
	"fmt"
	"reflect"
	"strconv"
	"strings"
	"testing"

	"cupel/api"
	"cupel/ast"
)

func same[T comparable](t *testing.T, what string, got, want T) {
	t.Helper()
	if got != want {
		t.Errorf("%s: %v, not %v", what, got, want)
	}
}

// plain is a tree whose empty lists are all nil, so that the library can hold it against another one.
func plain(n api.Node) api.Node {
	var kids []api.Node
	for _, kid := range n.Kids {
		kids = append(kids, plain(kid))
	}
	n.Kids = kids
	return n
}

// short is a text that may be told of a failure.
func short(s string) string {
	if len(s) > 300 {
		s = s[:100] + " .. " + s[len(s)-200:]
	}
	return strconv.Quote(s)
}

// parses tells that a text has a tree, whatever stands between its words and behind them.
func parses(t *testing.T, s string, want api.Node) {
	t.Helper()
	for _, text := range []string{s, "\n\t " + s + " ", s + "\n// and a note", "// a note }\n" + strings.ReplaceAll(s, " ", " \n\t// {\n ")} {
		got, at, e := Program(text)
		if at != 0 || e != api.OK || !reflect.DeepEqual(plain(got), plain(want)) {
			t.Errorf("%s:\n%s, place %d, error %d, not\n%s", short(text), short(fmt.Sprint(got)), at, e, short(fmt.Sprint(want)))
			return
		}
	}
}

// refuses tells that a text is refused at a place.
func refuses(t *testing.T, s string, place int, want api.Errno) {
	t.Helper()
	n, at, e := Program(s)
	if at != place || e != want {
		t.Errorf("%s: place %d, error %d, not place %d, error %d", short(s), at, e, place, want)
	}
	if !reflect.DeepEqual(n, api.Node{}) {
		t.Errorf("%s: a tree beside an error: %s", short(s), short(fmt.Sprint(n)))
	}
}

// marked tells that a text is refused where an @ stands in it, which itself is not of the text.
func marked(t *testing.T, s string, want api.Errno) {
	t.Helper()
	place := strings.Index(s, "@")
	if place < 0 || strings.Count(s, "@") != 1 {
		t.Fatalf("%s is not marked once", short(s))
	}
	refuses(t, strings.Replace(s, "@", "", 1), place, want)
}

// fine tells that a text has a tree; it is this.
func fine(t *testing.T, s string) api.Node {
	t.Helper()
	n, at, e := Program(s)
	if at != 0 || e != api.OK || n.Kind != api.NodeProgram {
		t.Errorf("%s: place %d, error %d, a node of kind %d", short(s), at, e, n.Kind)
	}
	return n
}

// Short words for nodes.

func node(kind int, kids ...api.Node) api.Node { return api.Node{Kind: kind, Kids: kids} }

func named(kind int, s string, kids ...api.Node) api.Node {
	return api.Node{Kind: kind, S: s, Kids: kids}
}

func typed(kind, t int, s string, kids ...api.Node) api.Node {
	return api.Node{Kind: kind, T: t, S: s, Kids: kids}
}

func whole(n int64) api.Node { return api.Node{Kind: api.NodeInt, N: n} }

func pointed(s string, bits int64) api.Node { return api.Node{Kind: api.NodeFloat, S: s, N: bits} }

func name(s string) api.Node { return api.Node{Kind: api.NodeVar, S: s} }

func yes() api.Node { return api.Node{Kind: api.NodeBool, N: 1} }

func no() api.Node { return api.Node{Kind: api.NodeBool} }

func call(s string, kids ...api.Node) api.Node { return named(api.NodeCall, s, kids...) }

func unary(s string, kid api.Node) api.Node { return named(api.NodeUnary, s, kid) }

func bin(a api.Node, s string, b api.Node) api.Node { return named(api.NodeBin, s, a, b) }

func block(kids ...api.Node) api.Node { return node(api.NodeBlock, kids...) }

// inTest is a program with one test of these statements.
func inTest(statements ...api.Node) api.Node {
	return node(api.NodeProgram, named(api.NodeTest, "t", block(statements...)))
}

// statement tells what tree a statement has.
func statement(t *testing.T, s string, want api.Node) {
	t.Helper()
	parses(t, "test t { "+s+" }", inTest(want))
	parses(t, "test t { skip; "+s+" skip; }", inTest(node(api.NodeSkip), want, node(api.NodeSkip)))
}

// expression tells what tree an expression has, wherever one may stand.
func expression(t *testing.T, s string, want api.Node) {
	t.Helper()
	statement(t, "return "+s+";", node(api.NodeReturn, want))
	statement(t, "assert "+s+";", node(api.NodeAssert, want))
	statement(t, "a := "+s+";", named(api.NodeDefine, "a", want))
	statement(t, "a = "+s+";", named(api.NodeAssign, "a", want))
	statement(t, "if "+s+" { }", node(api.NodeIf, want, block()))
	statement(t, "for "+s+" { }", node(api.NodeFor, want, block()))
	statement(t, "f("+s+");", node(api.NodeDo, call("f", want)))
	statement(t, "f(1, "+s+", 2);", node(api.NodeDo, call("f", whole(1), want, whole(2))))
	statement(t, "return f("+s+");", node(api.NodeReturn, call("f", want)))
	statement(t, "return ("+s+");", node(api.NodeReturn, want))
	statement(t, "return int("+s+");", node(api.NodeReturn, typed(api.NodeConv, api.TypeInt, "", want)))
}

// binds tells how signs bind: by the same expression with all brackets, as ast prints it.
func binds(t *testing.T, s, want string) {
	t.Helper()
	n := fine(t, "test t { return "+s+"; }")
	same(t, s, ast.Print(n), "test t { return "+want+"; }\n")
	m := fine(t, "test t { return "+want+"; }")
	same(t, s+" with brackets", ast.Same(n, m), true)
}

// Of the chapter: the ranks of signs between two.
var ranks = [][]string{{"||"}, {"&&"}, {"<", "<=", ">", ">=", "==", "!="}, {"+", "-"}, {"*", "/", "%"}}

// allSigns is all signs between two, rising by rank.
func allSigns() []string {
	var list []string
	for _, row := range ranks {
		list = append(list, row...)
	}
	return list
}

func rankOf(sign string) int {
	for i, row := range ranks {
		for _, s := range row {
			if s == sign {
				return i
			}
		}
	}
	return -1
}
