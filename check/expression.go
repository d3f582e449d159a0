package check

import (
	"math"

	"cupel/api"
)

func (c *checker) expressions(nodes []api.Node) {
	for i := range nodes {
		c.expression(&nodes[i])
	}
}

func (c *checker) expression(n *api.Node) {
	if !isExpression(n.Kind) {
		reject(api.ErrTree)
	}
	c.expressions(n.Kids)
	n.T = c.typeOf(*n)
	c.done(*n)
}

// constant looks at a global's literal. A sign ahead of it is its own.
func (c *checker) constant(n *api.Node) {
	if !isLiteral(n.Kind) {
		reject(api.ErrTree)
	}
	c.expressions(n.Kids) // it has none, if a text has it
	n.T = c.typeOf(*n)
	c.done(unsigned(*n))
}

// unsigned is a number without its sign.
func unsigned(n api.Node) api.Node {
	switch {
	case n.N >= 0:
	case n.Kind == api.NodeInt:
		n.N = -n.N
	case n.Kind == api.NodeFloat:
		n.N ^= math.MinInt64 // the highest bit is the sign, nought's too
	}
	return n
}

func isExpression(kind int) bool {
	switch kind {
	case api.NodeVar, api.NodeCall, api.NodeUnary, api.NodeBin, api.NodeConv:
		return true
	}
	return isLiteral(kind)
}

func isLiteral(kind int) bool {
	return kind == api.NodeInt || kind == api.NodeFloat || kind == api.NodeBool
}

// typeOf is the type of an expression whose kids' types are found.
func (c *checker) typeOf(n api.Node) int {
	switch n.Kind {
	case api.NodeInt:
		return api.TypeInt
	case api.NodeFloat:
		return api.TypeFloat
	case api.NodeBool:
		return api.TypeBool
	case api.NodeVar:
		return c.variable(n.S)
	case api.NodeCall:
		return c.call(n)
	case api.NodeUnary:
		return ahead(n)
	case api.NodeBin:
		return between(n)
	}
	return converted(n)
}

// variable is the type of a variable.
func (c *checker) variable(name string) int {
	t, known := c.variables[name]
	if !known {
		reject(api.ErrKnown)
	}
	return t
}

// call is the type of what a call answers.
func (c *checker) call(n api.Node) int {
	f, known := c.functions[n.S]
	if !known {
		reject(api.ErrKnown)
	}
	if len(n.Kids) != len(f.params) {
		reject(api.ErrCount)
	}
	for i, t := range f.params {
		need(n.Kids[i].T == t)
	}
	return f.answers
}

// need rejects types that do not fit.
func need(fit bool) {
	if !fit {
		reject(api.ErrType)
	}
}

// ahead is the type of an expression with a sign ahead.
func ahead(n api.Node) int {
	if len(n.Kids) != 1 {
		reject(api.ErrTree)
	}
	t := n.Kids[0].T
	switch n.S {
	case "-":
		need(isNumber(t))
	case "!":
		need(t == api.TypeBool)
	default:
		reject(api.ErrTree)
	}
	return t
}

// between is the type of two expressions with a sign between them.
func between(n api.Node) int {
	if len(n.Kids) != 2 {
		reject(api.ErrTree)
	}
	t, alike := n.Kids[0].T, n.Kids[0].T == n.Kids[1].T
	switch n.S {
	case "+", "-", "*", "/":
		need(alike && isNumber(t))
		return t
	case "%":
		need(alike && t == api.TypeInt)
		return t
	case "<", "<=", ">", ">=":
		need(alike && isNumber(t))
	case "==", "!=":
		need(alike)
	case "&&", "||":
		need(alike && t == api.TypeBool)
	default:
		reject(api.ErrTree)
	}
	return api.TypeBool
}

// converted is the type of a number that is made one of a type, which the node itself tells.
func converted(n api.Node) int {
	if len(n.Kids) != 1 || !isNumber(n.T) {
		reject(api.ErrTree)
	}
	need(isNumber(n.Kids[0].T))
	return n.T
}

func isNumber(t int) bool { return t == api.TypeInt || t == api.TypeFloat }
