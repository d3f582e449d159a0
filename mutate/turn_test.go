package mutate

import (
	"math"
	"slices"
	"strings"
	"testing"

	"cupel/api"
	"cupel/ast"
)

// turnsInto tells what a node turns into, with a type and without one; the node must stay as it was.
func turnsInto(t *testing.T, what string, n api.Node, want ...api.Node) {
	t.Helper()
	was := ast.Clone(n)
	sameTrees(t, what, Turns(n), want)
	sameTrees(t, what+", asked again", Turns(n), want)
	sameTree(t, what+": the node", n, was)
}

// ofType is a node with a type.
func ofType(n api.Node, t int) api.Node {
	n.T = t
	return n
}

// ofTypes is nodes with a type each.
func ofTypes(list []api.Node, t int) []api.Node {
	list = slices.Clone(list)
	for i := range list {
		list[i].T = t
	}
	return list
}

// Promise 15.1: signs between two, each with the expressions that it had.
func TestSignsBetweenTwo(t *testing.T) {
	table := "+ -,- +,* /,/ *,% *,< <= >=,<= < >,> >= <=,>= > <,== !=,!= ==,&& ||,|| &&"
	a, b := bin(variable("a"), "*", whole(5)), named(api.NodeCall, "f", whole(1), variable("c"))
	seen := 0
	for _, row := range strings.Split(table, ",") {
		signs := strings.Fields(row)
		var want []api.Node
		for _, s := range signs[1:] {
			want = append(want, bin(a, s, b))
		}
		turnsInto(t, signs[0], bin(a, signs[0], b), want...)
		for _, kind := range []int{api.TypeInt, api.TypeFloat, api.TypeBool} {
			turnsInto(t, signs[0]+" with a type", ofType(bin(a, signs[0], b), kind), ofTypes(want, kind)...)
		}
		seen++
	}
	same(t, "signs", seen, 13)
}

// Promise 15.1: what is no sign between two turns into nothing.
func TestNoSignsBetweenTwo(t *testing.T) {
	for _, s := range []string{"", "!", "=", ":=", "++", "--", "<<", "=>", "&", "|", "&&&", "+ ", " +", "(", ",", "a", "int", "\x00", "+-"} {
		turnsInto(t, s, bin(whole(1), s, whole(2)))
	}
}

// Promise 15.1: a sign ahead turns into its expression alone, whichever it is.
func TestSignsAhead(t *testing.T) {
	for _, x := range []api.Node{
		variable("a"), whole(0), whole(7), ast.Float("1.5"), truth(1), bin(whole(1), "+", whole(2)),
		named(api.NodeCall, "f", variable("a"), whole(2)), typed(api.NodeConv, api.TypeInt, "", ast.Float("1.5")),
		named(api.NodeUnary, "-", variable("a")), named(api.NodeUnary, "!", named(api.NodeUnary, "!", truth(0))),
		ofType(bin(ofType(whole(1), 1), "<", ofType(whole(2), 1)), 3),
	} {
		for _, s := range []string{"-", "!"} {
			turnsInto(t, s, named(api.NodeUnary, s, x), x)
			turnsInto(t, s+" with a type", typed(api.NodeUnary, 1, s, x), x)
		}
	}
}

// Promise 15.1: whole numbers, at each edge that the chapter names.
func TestWholeNumbers(t *testing.T) {
	for n, want := range map[int64][]int64{
		0: {1}, 1: {2}, 2: {3, 0}, 3: {4, 0}, 10: {11, 0}, 255: {256, 0}, 1 << 32: {1<<32 + 1, 0},
		math.MaxInt64 - 2: {math.MaxInt64 - 1, 0}, math.MaxInt64 - 1: {math.MaxInt64, 0}, math.MaxInt64: {math.MaxInt64 - 1, 0},
		-1: {0}, -2: {-1}, math.MinInt64: {math.MinInt64 + 1}, // those below 0 stand in no function; they are not above 1
	} {
		var list []api.Node
		for _, x := range want {
			list = append(list, whole(x))
		}
		turnsInto(t, "a whole number", whole(n), list...)
		turnsInto(t, "with a type", ofType(whole(n), api.TypeInt), ofTypes(list, api.TypeInt)...)
	}
}

// Promise 15.1: numbers with a point: 0.0 with and without a sign, and others.
func TestNumbersWithAPoint(t *testing.T) {
	zero, one := api.Node{Kind: 21, S: "0.0"}, api.Node{Kind: 21, S: "1.0", N: 0x3ff0000000000000}
	turnsInto(t, "0.0", zero, one)
	turnsInto(t, "0.0 of more digits", ast.Float("00.000"), one)
	turnsInto(t, "0.0 with a type", ofType(zero, api.TypeFloat), ofType(one, api.TypeFloat))
	turnsInto(t, "-0.0", api.Node{Kind: 21, S: "0.0", N: math.MinInt64}, zero)
	for _, s := range []string{"1.0", "0.5", "2.5", "0.00000000000001", "99999999999999.0", "0.1", "10.0"} {
		n := ast.Float(s)
		turnsInto(t, s, n, zero)
		turnsInto(t, s+" with a type", ofType(n, api.TypeFloat), ofType(zero, api.TypeFloat))
		n.N ^= math.MinInt64
		turnsInto(t, "-"+s, n, zero)
	}
	for _, x := range []float64{math.Inf(1), math.Inf(-1), math.NaN(), math.MaxFloat64, math.SmallestNonzeroFloat64} {
		turnsInto(t, "other bits", api.Node{Kind: 21, S: "9.0", N: int64(math.Float64bits(x))}, zero)
	}
}

// Promise 15.1: true and false.
func TestTrueAndFalse(t *testing.T) {
	turnsInto(t, "true", truth(1), truth(0))
	turnsInto(t, "false", truth(0), truth(1))
	turnsInto(t, "true with a type", ofType(truth(1), api.TypeBool), ofType(truth(0), api.TypeBool))
	turnsInto(t, "false with a type", ofType(truth(0), api.TypeBool), ofType(truth(1), api.TypeBool))
}

// Promise 15.1: an assignment, and a call that is a statement; the call itself, as an expression, turns into nothing.
func TestStatements(t *testing.T) {
	call := named(api.NodeCall, "f", whole(1))
	turnsInto(t, "an assignment", named(api.NodeAssign, "x", call), skip())
	turnsInto(t, "one with a type", typed(api.NodeAssign, 1, "x", whole(2)), skip())
	turnsInto(t, "a call that is a statement", tree(api.NodeDo, call), skip())
	turnsInto(t, "a call of nothing", tree(api.NodeDo, named(api.NodeCall, "f")), skip())
	turnsInto(t, "the call", call)
}

// Promise 15.1: all other nodes turn into nothing.
func TestOtherNodes(t *testing.T) {
	turning := []int{8, 13, 20, 21, 22, 25, 26}
	for kind := -30; kind < 300; kind++ {
		if slices.Contains(turning, kind) {
			continue
		}
		for _, s := range []string{"", "+", "-", "!", "a", "1.0"} {
			for _, n := range []int64{0, 1, 2, -1} {
				for _, kids := range [][]api.Node{nil, {whole(1)}, {whole(1), whole(2)}, {block(), block()}} {
					turnsInto(t, "another node", api.Node{Kind: kind, T: 1, S: s, N: n, Kids: kids})
				}
			}
		}
	}
	for _, kind := range turning {
		same(t, "one that turns", len(Turns(api.Node{Kind: kind, S: "+", Kids: []api.Node{whole(1)}})), 1)
	}
}

// Rule R2: what Turns answers is the caller's own, and no two of it share anything.
func TestTurnsAreTheCallersOwn(t *testing.T) {
	for _, n := range []api.Node{
		bin(bin(whole(1), "+", whole(2)), "<", named(api.NodeCall, "f", whole(3))),
		named(api.NodeUnary, "-", bin(whole(1), "+", whole(2))), whole(5), ast.Float("1.5"), truth(1),
	} {
		was, list := ast.Clone(n), Turns(n)
		want := Turns(was)
		for i := range list {
			for j := range i {
				spoil(&list[j])
			}
			sameTree(t, "when another one is changed", list[i], want[i])
		}
		for i := range list {
			spoil(&list[i])
		}
		sameTree(t, "the node, when what was answered is changed", n, was)
		list = Turns(n)
		spoil(&n)
		sameTrees(t, "when the node is changed", list, want)
	}
}

// Rule R1: nodes that are not as they should be.
func TestTurnsOfWrongNodes(t *testing.T) {
	for kind := range 30 {
		for _, s := range []string{"", "+", "<", "!"} {
			for _, kids := range [][]api.Node{nil, {}, {{}}, {{}, {}, {}}} {
				n := api.Node{Kind: kind, T: -1, S: s, N: 5, Kids: kids}
				was := ast.Clone(n)
				if got := len(Turns(n)); got > 2 {
					t.Errorf("%v: %d turns", n, got)
				}
				sameTree(t, "the node", n, was)
			}
		}
	}
	same(t, "a sign ahead of nothing", len(Turns(named(api.NodeUnary, "-"))), 0)
	same(t, "neither true nor false", len(Turns(truth(2))), 0)
}
