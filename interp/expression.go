package interp

import (
	"cupel/api"
	"cupel/val"
)

// expression is the value of one.
func (c *call) expression(n node) api.Value {
	c.step(n)
	switch n.Kind {
	case api.NodeVar:
		return c.variable(n.S)
	case api.NodeCall:
		return c.called(n)
	case api.NodeUnary:
		return val.Unary(n.S, c.expression(n.kids[0]))
	case api.NodeBin:
		return c.between(n)
	case api.NodeConv:
		v, wrong := val.Conv(n.T, c.expression(n.kids[0]))
		need(wrong)
		return v
	}
	return literal(n.Node)
}

// between is the value of two expressions with a sign between them.
func (c *call) between(n node) api.Value {
	first := c.expression(n.kids[0])
	if n.S == "&&" && !val.True(first) || n.S == "||" && val.True(first) {
		return first // the second one does not count
	}
	v, wrong := val.Binary(n.S, first, c.expression(n.kids[1]))
	need(wrong)
	return v
}

// called is what a call answers.
func (c *call) called(n node) api.Value {
	f := c.blocks[n.S]
	inner := call{machine: c.machine, depth: c.depth + 1, names: map[string]api.Value{}}
	for i, kid := range n.kids {
		inner.names[f.params[i]] = c.expression(kid)
	}
	if c.depth == api.MaxCalls {
		need(api.TrapDeep)
	}
	inner.block(f.block)
	return inner.answer
}
