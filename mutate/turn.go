package mutate

import (
	"math"

	"cupel/api"
	"cupel/ast"
)

// Turns is what a node turns into, one after the other.
func Turns(n api.Node) []api.Node {
	list := turns(n)
	for i := range list {
		list[i] = ast.Clone(list[i])
	}
	return list
}

// turns is what a node turns into. Kids are the node's own, not copies, as most who ask only count.
func turns(n api.Node) []api.Node {
	switch n.Kind {
	case api.NodeBin:
		return withSigns(n, otherSigns(n.S))
	case api.NodeUnary:
		if len(n.Kids) == 1 {
			return []api.Node{n.Kids[0]}
		}
	case api.NodeInt:
		return withNumbers(n, otherWholes(n.N))
	case api.NodeFloat:
		return []api.Node{otherFloat(n)}
	case api.NodeBool:
		return withNumbers(n, otherTruth(n.N))
	case api.NodeAssign, api.NodeDo:
		return []api.Node{{Kind: api.NodeSkip}}
	}
	return nil
}

// withSigns is a node with each of some signs in the place of its own. Its type stays: no sign turns into one that answers another type.
func withSigns(n api.Node, signs []string) []api.Node {
	var list []api.Node
	for _, s := range signs {
		n.S = s
		list = append(list, n)
	}
	return list
}

// withNumbers is a node with each of some numbers in the place of its own.
func withNumbers(n api.Node, numbers []int64) []api.Node {
	var list []api.Node
	for _, x := range numbers {
		n.N = x
		list = append(list, n)
	}
	return list
}

// otherSigns is what a sign between two turns into.
func otherSigns(sign string) []string {
	switch sign {
	case "+":
		return []string{"-"}
	case "-":
		return []string{"+"}
	case "*":
		return []string{"/"}
	case "/", "%":
		return []string{"*"}
	case "<":
		return []string{"<=", ">="}
	case "<=":
		return []string{"<", ">"}
	case ">":
		return []string{">=", "<="}
	case ">=":
		return []string{">", "<"}
	case "==":
		return []string{"!="}
	case "!=":
		return []string{"=="}
	case "&&":
		return []string{"||"}
	case "||":
		return []string{"&&"}
	}
	return nil
}

// otherWholes is what a whole number turns into.
func otherWholes(n int64) []int64 {
	switch {
	case n == math.MaxInt64: // one more would be below 0, which no text has
		return []int64{n - 1, 0}
	case n > 1:
		return []int64{n + 1, 0}
	}
	return []int64{n + 1}
}

// otherFloat is what a number with a point turns into. Its bits tell whether it is 0.0, as its digits have no sign.
func otherFloat(n api.Node) api.Node {
	other := ast.Float("0.0")
	if n.N == other.N {
		other = ast.Float("1.0")
	}
	other.T = n.T
	return other
}

// otherTruth is what true and false turn into; what is neither, into nothing.
func otherTruth(n int64) []int64 {
	switch n {
	case 0:
		return []int64{1}
	case 1:
		return []int64{0}
	}
	return nil
}
