package check

import "cupel/api"

func (c *checker) block(n *api.Node) {
	if n.Kind != api.NodeBlock {
		reject(api.ErrTree)
	}
	known := len(c.passing)
	for i := range n.Kids {
		c.statement(&n.Kids[i])
	}
	c.forget(known)
	c.done(*n)
}

func (c *checker) statement(n *api.Node) {
	switch n.Kind {
	case api.NodeIf, api.NodeFor:
		c.branches(n)
	case api.NodeDefine, api.NodeAssign, api.NodeReturn, api.NodeAssert, api.NodeDo, api.NodeSkip:
		c.line(n)
	default:
		reject(api.ErrTree)
	}
	c.done(*n)
}

// branches looks at a condition, and the blocks behind it. What is wrong with the condition is told ahead of them, as it stands ahead of them.
func (c *checker) branches(n *api.Node) {
	for i := range n.Kids {
		if i > 0 {
			c.block(&n.Kids[i])
			continue
		}
		c.expression(&n.Kids[i])
		if n.Kids[i].T != api.TypeBool {
			reject(api.ErrType)
		}
	}
}

// line looks at a statement without blocks.
func (c *checker) line(n *api.Node) {
	if n.Kind == api.NodeDo {
		callsAlone(n.Kids)
	}
	c.expressions(n.Kids)
	switch n.Kind {
	case api.NodeDefine:
		c.define(*n)
	case api.NodeAssign:
		fits(*n, c.variable(n.S))
	case api.NodeReturn:
		c.returned(*n)
	case api.NodeAssert:
		fits(*n, api.TypeBool)
	}
}

// callsAlone rejects anything but calls.
func callsAlone(nodes []api.Node) {
	for _, n := range nodes {
		if n.Kind != api.NodeCall {
			reject(api.ErrTree)
		}
	}
}

func (c *checker) define(n api.Node) {
	t := 0
	if len(n.Kids) > 0 {
		t = n.Kids[0].T
	}
	c.know(n.S, t)
}

func (c *checker) returned(n api.Node) {
	if c.inTest {
		reject(api.ErrReturn)
	}
	fits(n, c.answers)
}

// fits rejects a node whose one kid has not just a type. That it has none, or more, is another matter.
func fits(n api.Node, t int) {
	if len(n.Kids) == 1 && n.Kids[0].T != t {
		reject(api.ErrType)
	}
}
